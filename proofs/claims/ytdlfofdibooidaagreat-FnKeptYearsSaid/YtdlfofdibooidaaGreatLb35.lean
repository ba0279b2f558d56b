/- Merged: Lvk. -/
import Derived.Test.YtdlfofdibooidaaGreatLb32
import Derived.Test.YtdlfofdibooidaaGreatLb33

/- Leaving: the program's choices by their number, and the best leaving. (Written by wip/gen/lvk.py.) -/
namespace Go.Proofs.YtdlfofdibooidaaGreat
open Go.ChangeShapes Go.WideShapes Go.ChangeAt Go.RowKit
open Go.ChangeMaps (setBlock heap_setBlock_same heap_setBlock_other)
set_option linter.unusedVariables false
set_option maxRecDepth 100000

/-- a leaver in a box, over the course -/
structure CB (w : World) (C R : Nat) (r f : Int) (xs : List Int) (v : Value) (k x n s u : Int) (N : Nat) (ys : List Value) (W : World) : Prop where
  crs : Crs C R r f xs v k x n s u W
  y : Bx W N ys
  low : Below w.heap.size w W

theorem CB.on {w : World} {C R : Nat} {r f : Int} {xs : List Int} {v : Value} {k x n s u : Int} {N : Nat} {ys : List Value} {W W' : World} (h : CB w C R r f xs v k x n s u N ys W) (hb : Below W.heap.size W W') : CB w C R r f xs v k x n s u N ys W' := ⟨h.crs.on hb, h.y.on hb, h.low.trans (hb.mono h.low.size)⟩

theorem cbS {w : World} {C R : Nat} {r f : Int} {xs : List Int} {v : Value} {k x n s u : Int} {N : Nat} {y0 y1 y2 y3 y4 y5 y6 y7 y8 y9 y10 y11 y12 : Value} {W : World} (h : CB w C R r f xs v k x n s u N [y0, y1, y2, y3, y4, y5, y6, y7, y8, y9, y10, y11, y12] W) : W.cell? ⟨N, 0, none⟩ = some y0 ∧ W.cell? ⟨N, 1, none⟩ = some y1 ∧ W.cell? ⟨N, 2, none⟩ = some y2 ∧ W.cell? ⟨N, 3, none⟩ = some y3 ∧ W.cell? ⟨N, 4, none⟩ = some y4 ∧ W.cell? ⟨N, 5, none⟩ = some y5 ∧ W.cell? ⟨N, 6, none⟩ = some y6 ∧ W.cell? ⟨N, 7, none⟩ = some y7 ∧ W.cell? ⟨N, 8, none⟩ = some y8 ∧ W.cell? ⟨N, 9, none⟩ = some y9 ∧ W.cell? ⟨N, 10, none⟩ = some y10 ∧ W.cell? ⟨N, 11, none⟩ = some y11 ∧ W.cell? ⟨N, 12, none⟩ = some y12 ∧ Hid (CB w C R r f xs v k x n s u N [y0, y1, y2, y3, y4, y5, y6, y7, y8, y9, y10, y11, y12] W) := by
  obtain ⟨c0, c1, c2, c3, c4, c5, c6, c7, c8, c9, c10, c11, c12⟩ := h.y.c13
  exact ⟨c0, c1, c2, c3, c4, c5, c6, c7, c8, c9, c10, c11, c12, Lib.hid h⟩

set_option maxHeartbeats 16000000 in
theorem ich_any (what X : Int) (hwt : 0 ≤ what ∧ what ≤ 4) (r f : Int) (xs : List Int) (a : Option Addr) (l c : Nat) (k x n s u j : Int) (w : World) (h : Ints w a l xs) (hlc : l ≤ c)
    (hX : lvE r f xs k x n s u j = 0 → ∀ C R W, Crs C R r f xs (.slice a l c) k x n s u W → Calls Tryz.prog (mcF what) #[lvrV C r f xs k x n j (ktN r f xs k x n s j) (lsvN r f xs k x n s j)] W fun e w' => e = .returned (.int .i64 X) ∧ Below W.heap.size W w') :
    Calls Tryz.prog 35 #[.agg #[.int .i64 f, .slice a l c, .int .i64 r], .agg #[.int .i64 k, .int .i64 x, .int .i64 n, .int .i64 s, .int .i64 u], .int .i64 j, .int .i64 what] w (IIPost (lvV (lvE r f xs k x n s u j) X) (lvE r f xs k x n s u j) w) := by
  have H := Lib.hid h
  clear h
  have HP := Lib.hid (BP.new w f (.slice a l c) r k x n s u 28 30)
  unfold IIPost
  by_cases hp : poB r f xs k x n s u = true
  · have CT : Hid (∀ W, Hid (BP w f (.slice a l c) r k x n s u W) → Calls Tryz.prog 48 #[.agg #[.int .i64 f, .slice a l c, .int .i64 r], .agg #[.int .i64 k, .int .i64 x, .int .i64 n, .int .i64 s, .int .i64 u]] W (CoYes r f xs (.slice a l c) k x n s u W)) := Lib.hid (fun W hW => ico_yes r f xs a l c k x n s u W (H.out.on hW.out.low) hlc hp)
    unfold CoYes at CT
    by_cases he : rvE r f xs k x n s u j = 0
    · obtain ⟨-, hj, hd⟩ := rvE_iff.1 he
      have CL : Hid (∀ C R W, Crs C R r f xs (.slice a l c) k x n s u W → Calls Tryz.prog 59 #[.pointer (some ⟨C, 0, none⟩), .int .i64 j] W (YrPost (lvrV C r f xs k x n j (ktN r f xs k x n s j) (lsvN r f xs k x n s j)) 0 W)) := Lib.hid (fun C R W hW => ile_yes C R r f xs (.slice a l c) k x n s u j W hW hp hj hd)
      obtain ⟨q, v9, e1, e2, -⟩ := lv_nums hp hj hd
      by_cases hj2 : j < 2
      · rw [lvE_low he hj2]
        have HV : Hid (lvV 4 X = 0) := Lib.hid rfl
        rw [HV.out]
        rw [e1, e2] at CL
        unfold YrPost lvrV at CL
        clear HV e1 e2 he hj hd hp hX hwt
        obtain ⟨g0, hg0⟩ : ∃ y_, cD r xs (x + j - f).toNat = y_ := ⟨_, rfl⟩
        obtain ⟨g1, hg1⟩ : ∃ y_, cN r xs (x + j - f).toNat = y_ := ⟨_, rfl⟩
        obtain ⟨g2, hg2⟩ : ∃ y_, cC r xs (x + j - f).toNat = y_ := ⟨_, rfl⟩
        obtain ⟨g3, hg3⟩ : ∃ y_, cM r xs (x + j - f).toNat = y_ := ⟨_, rfl⟩
        rw [hg0, hg1, hg2, hg3] at CL
        clear hg0 hg1 hg2 hg3
        obtain ⟨g4, hg0⟩ : ∃ y_, cD r xs (x + j + lfN k n j - f).toNat = y_ := ⟨_, rfl⟩
        obtain ⟨g5, hg1⟩ : ∃ y_, cN r xs (x + j + lfN k n j - f).toNat = y_ := ⟨_, rfl⟩
        obtain ⟨g6, hg2⟩ : ∃ y_, cC r xs (x + j + lfN k n j - f).toNat = y_ := ⟨_, rfl⟩
        obtain ⟨g7, hg3⟩ : ∃ y_, cM r xs (x + j + lfN k n j - f).toNat = y_ := ⟨_, rfl⟩
        rw [hg0, hg1, hg2, hg3] at CL
        clear hg0 hg1 hg2 hg3
        obtain ⟨T, hT⟩ : ∃ y_, kT k = y_ := ⟨_, rfl⟩
        rw [hT] at CL
        clear hT
        go_enter Tryz.func35, Tryz.ntmps35
        go_wp2_with fail
        obtain ⟨W1, hW1⟩ : ∃ W1, ((w.alloc (.cells #[.int .i64 f, .slice a l c, .int .i64 r] 28)).alloc (.cells #[.int .i64 k, .int .i64 x, .int .i64 n, .int .i64 s, .int .i64 u] 30)) = W1 := ⟨_, rfl⟩
        rw [hW1] at HP ⊢
        clear hW1
        with_reducible refine (CT.out _ HP).mono ?_
        rintro e w1 ⟨C, R, rfl, hcr, hb⟩
        have HP := Lib.hid (HP.out.on hb)
        obtain ⟨b0, b1, b2, p0, p1, p2, p3, p4, -⟩ := bpS HP.out
        clear hb CT
        have HCR := Lib.hid hcr
        clear hcr
        go_wp2_with fail
        with_reducible refine (CL.out C R _ HCR.out).mono ?_
        rintro e w2 ⟨rfl, hb⟩
        have HP := Lib.hid ((HP.out.on hb).on (box_b w2 (.cells #[.pointer (some ⟨C, 0, none⟩), .iface T (.agg #[]), .int .i64 g0, .int .i64 g1, .int .i64 g2, .int .i64 g3, .int .i64 g4, .int .i64 g5, .int .i64 g6, .int .i64 g7, .int .i64 j, .int .i64 q, .int .i64 v9] 91)))
        clear hb b0 b1 b2 p0 p1 p2 p3 p4 CL
        go_wp2_with fail
        go_ret2
        exact ⟨rfl, HP.out.low⟩
      · have hE : lvE r f xs k x n s u j = 0 := lvE_iff.2 ⟨he, by omega⟩
        have CF : Hid (∀ C R W, Crs C R r f xs (.slice a l c) k x n s u W → Calls Tryz.prog (mcF what) #[lvrV C r f xs k x n j (ktN r f xs k x n s j) (lsvN r f xs k x n s j)] W fun e w' => e = .returned (.int .i64 X) ∧ Below W.heap.size W w') := Lib.hid (hX hE)
        have HV : Hid (lvV 0 X = X) := Lib.hid rfl
        rw [hE, HV.out]
        rw [e1, e2] at CL CF
        unfold YrPost lvrV at CL
        unfold lvrV at CF
        have HG := Lib.hid (fun B W hB => ch_get what hwt B W hB)
        have hen := ch_enter what hwt
        obtain ⟨FN, hFN⟩ : ∃ y_, mcF what = y_ := ⟨_, rfl⟩
        rw [hFN] at CF HG hen
        clear HV e1 e2 he hj hd hp hX hwt hE hFN
        obtain ⟨g0, hg0⟩ : ∃ y_, cD r xs (x + j - f).toNat = y_ := ⟨_, rfl⟩
        obtain ⟨g1, hg1⟩ : ∃ y_, cN r xs (x + j - f).toNat = y_ := ⟨_, rfl⟩
        obtain ⟨g2, hg2⟩ : ∃ y_, cC r xs (x + j - f).toNat = y_ := ⟨_, rfl⟩
        obtain ⟨g3, hg3⟩ : ∃ y_, cM r xs (x + j - f).toNat = y_ := ⟨_, rfl⟩
        rw [hg0, hg1, hg2, hg3] at CL CF
        clear hg0 hg1 hg2 hg3
        obtain ⟨g4, hg0⟩ : ∃ y_, cD r xs (x + j + lfN k n j - f).toNat = y_ := ⟨_, rfl⟩
        obtain ⟨g5, hg1⟩ : ∃ y_, cN r xs (x + j + lfN k n j - f).toNat = y_ := ⟨_, rfl⟩
        obtain ⟨g6, hg2⟩ : ∃ y_, cC r xs (x + j + lfN k n j - f).toNat = y_ := ⟨_, rfl⟩
        obtain ⟨g7, hg3⟩ : ∃ y_, cM r xs (x + j + lfN k n j - f).toNat = y_ := ⟨_, rfl⟩
        rw [hg0, hg1, hg2, hg3] at CL CF
        clear hg0 hg1 hg2 hg3
        obtain ⟨T, hT⟩ : ∃ y_, kT k = y_ := ⟨_, rfl⟩
        rw [hT] at CL CF
        clear hT
        go_enter Tryz.func35, Tryz.ntmps35
        go_wp2_with fail
        obtain ⟨W1, hW1⟩ : ∃ W1, ((w.alloc (.cells #[.int .i64 f, .slice a l c, .int .i64 r] 28)).alloc (.cells #[.int .i64 k, .int .i64 x, .int .i64 n, .int .i64 s, .int .i64 u] 30)) = W1 := ⟨_, rfl⟩
        rw [hW1] at HP ⊢
        clear hW1
        with_reducible refine (CT.out _ HP).mono ?_
        rintro e w1 ⟨C, R, rfl, hcr, hb⟩
        have HP := Lib.hid (HP.out.on hb)
        obtain ⟨b0, b1, b2, p0, p1, p2, p3, p4, -⟩ := bpS HP.out
        clear hb CT
        have HCR := Lib.hid hcr
        clear hcr
        go_wp2_with fail
        with_reducible refine (CL.out C R _ HCR.out).mono ?_
        rintro e w2 ⟨rfl, hb⟩
        have HC : Hid (CB w C R r f xs (.slice a l c) k x n s u w2.heap.size [.pointer (some ⟨C, 0, none⟩), .iface T (.agg #[]), .int .i64 g0, .int .i64 g1, .int .i64 g2, .int .i64 g3, .int .i64 g4, .int .i64 g5, .int .i64 g6, .int .i64 g7, .int .i64 j, .int .i64 q, .int .i64 v9] (w2.alloc (.cells #[.pointer (some ⟨C, 0, none⟩), .iface T (.agg #[]), .int .i64 g0, .int .i64 g1, .int .i64 g2, .int .i64 g3, .int .i64 g4, .int .i64 g5, .int .i64 g6, .int .i64 g7, .int .i64 j, .int .i64 q, .int .i64 v9] 91))) := Lib.hid ⟨(HCR.out.on hb).on (box_b _ _), Bx.new w2 [.pointer (some ⟨C, 0, none⟩), .iface T (.agg #[]), .int .i64 g0, .int .i64 g1, .int .i64 g2, .int .i64 g3, .int .i64 g4, .int .i64 g5, .int .i64 g6, .int .i64 g7, .int .i64 j, .int .i64 q, .int .i64 v9] 91, (HP.out.low.trans (hb.mono HP.out.low.size)).trans ((box_b _ _).mono (Nat.le_trans HP.out.low.size hb.size))⟩
        clear hb b0 b1 b2 p0 p1 p2 p3 p4 CL HP HCR
        go_wp2_with fail
        obtain ⟨W3, hW3⟩ : ∃ y_, w2.alloc (.cells #[.pointer (some ⟨C, 0, none⟩), .iface T (.agg #[]), .int .i64 g0, .int .i64 g1, .int .i64 g2, .int .i64 g3, .int .i64 g4, .int .i64 g5, .int .i64 g6, .int .i64 g7, .int .i64 j, .int .i64 q, .int .i64 v9] 91) = y_ := ⟨_, rfl⟩
        obtain ⟨N, hN⟩ : ∃ y_, w2.heap.size = y_ := ⟨_, rfl⟩
        rw [hW3, hN] at HC
        (try rw [hW3])
        (try rw [hN])
        clear hW3 hN
        have CF2 : Hid (∀ W, Hid (CB w C R r f xs (.slice a l c) k x n s u N [.pointer (some ⟨C, 0, none⟩), .iface T (.agg #[]), .int .i64 g0, .int .i64 g1, .int .i64 g2, .int .i64 g3, .int .i64 g4, .int .i64 g5, .int .i64 g6, .int .i64 g7, .int .i64 j, .int .i64 q, .int .i64 v9] W) → Calls Tryz.prog FN #[.agg #[.pointer (some ⟨C, 0, none⟩), .iface T (.agg #[]), .int .i64 g0, .int .i64 g1, .int .i64 g2, .int .i64 g3, .int .i64 g4, .int .i64 g5, .int .i64 g6, .int .i64 g7, .int .i64 j, .int .i64 q, .int .i64 v9]] W fun e w' => e = .returned (.int .i64 X) ∧ Below W.heap.size W w') := Lib.hid (fun W hW => CF.out C R W hW.out.crs)
        obtain ⟨k0, k1, k2, k3, k4, k5, k6, k7, k8, k9, k10, k11, k12, _⟩ := cbS HC.out
        go_region_held3 (fun W9 => W9.cell? ⟨N, 0, none⟩ = some (.pointer (some ⟨C, 0, none⟩)) ∧ W9.cell? ⟨N, 1, none⟩ = some (.iface T (.agg #[])) ∧ W9.cell? ⟨N, 2, none⟩ = some (.int .i64 g0) ∧ W9.cell? ⟨N, 3, none⟩ = some (.int .i64 g1) ∧ W9.cell? ⟨N, 4, none⟩ = some (.int .i64 g2) ∧ W9.cell? ⟨N, 5, none⟩ = some (.int .i64 g3) ∧ W9.cell? ⟨N, 6, none⟩ = some (.int .i64 g4) ∧ W9.cell? ⟨N, 7, none⟩ = some (.int .i64 g5) ∧ W9.cell? ⟨N, 8, none⟩ = some (.int .i64 g6) ∧ W9.cell? ⟨N, 9, none⟩ = some (.int .i64 g7) ∧ W9.cell? ⟨N, 10, none⟩ = some (.int .i64 j) ∧ W9.cell? ⟨N, 11, none⟩ = some (.int .i64 q) ∧ W9.cell? ⟨N, 12, none⟩ = some (.int .i64 v9) ∧ Hid (CB w C R r f xs (.slice a l c) k x n s u N [.pointer (some ⟨C, 0, none⟩), .iface T (.agg #[]), .int .i64 g0, .int .i64 g1, .int .i64 g2, .int .i64 g3, .int .i64 g4, .int .i64 g5, .int .i64 g6, .int .i64 g7, .int .i64 j, .int .i64 q, .int .i64 v9] W9))
          (first
            | (go_split_ands; with_reducible exact cbS (Hid.out (by with_reducible assumption)))
            | (go_split_ands; with_reducible exact cbS (CB.on (Hid.out (by with_reducible assumption)) hb))
            | (go_split_ands; with_reducible exact cbS (CB.on (Hid.out (by with_reducible assumption)) (Below.drew (Below.refl _ _))))
            | fail)
          (first
            | (go_split_ands; go_at_call 60; ((with_reducible refine (cho_any _).mono ?_); rintro e w' ⟨B, rfl, hm, hb⟩; have hget := HG.out B w' hm; clear hm))
            | (go_split_ands; ((with_reducible refine (CF2.out _ (by with_reducible assumption)).mono ?_); rintro e w' ⟨rfl, hb⟩))
            | fail)
        all_goals
          go_split_ands
          have HZ : Hid (CB w C R r f xs (.slice a l c) k x n s u N [.pointer (some ⟨C, 0, none⟩), .iface T (.agg #[]), .int .i64 g0, .int .i64 g1, .int .i64 g2, .int .i64 g3, .int .i64 g4, .int .i64 g5, .int .i64 g6, .int .i64 g7, .int .i64 j, .int .i64 q, .int .i64 v9] w') := by with_reducible assumption
          go_wp2_with fail
          go_ret2
          exact ⟨rfl, HZ.out.low⟩
    · have hE := lvE_err he
      have CL : Hid (∀ C R W, Crs C R r f xs (.slice a l c) k x n s u W → Calls Tryz.prog 59 #[.pointer (some ⟨C, 0, none⟩), .int .i64 j] W (YrPost lvrZ (rvE r f xs k x n s u j) W)) := by
        by_cases hi : inB j 0 (durN f xs k x n - 1) = true
        · by_cases hd : dvN r f xs x j = 0
          · rw [rvE_zero hp hi hd]
            exact Lib.hid (fun C R W hW => ile_err C R r f xs (.slice a l c) k x n s u j 5 W hW (by omega) (fun W2 hW2 => iin_zero C R r f xs (.slice a l c) k x n s u j W2 hW2 hp hi hd))
          · exact absurd (rvE_iff.2 ⟨hp, (inB_iff _ _ _).1 hi, hd⟩) he
        · have hi : inB j 0 (durN f xs k x n - 1) = false := by simpa using hi
          rw [rvE_out hp hi]
          exact Lib.hid (fun C R W hW => ile_err C R r f xs (.slice a l c) k x n s u j 2 W hW (by omega) (fun W2 hW2 => iin_out C R r f xs (.slice a l c) k x n s u j W2 hW2 hp hi))
      rw [hE, lvV_no he]
      obtain ⟨E, hEE⟩ : ∃ y_, rvE r f xs k x n s u j = y_ := ⟨_, rfl⟩
      rw [hEE] at CL he ⊢
      have hb1 : (E == 0) = false := by simp [he]
      have hb2 : (E != 0) = true := by simp [he]
      unfold YrPost lvrZ at CL
      clear hE hEE he hp hX hwt
      go_enter Tryz.func35, Tryz.ntmps35
      go_wp2_with fail
      obtain ⟨W1, hW1⟩ : ∃ W1, ((w.alloc (.cells #[.int .i64 f, .slice a l c, .int .i64 r] 28)).alloc (.cells #[.int .i64 k, .int .i64 x, .int .i64 n, .int .i64 s, .int .i64 u] 30)) = W1 := ⟨_, rfl⟩
      rw [hW1] at HP ⊢
      clear hW1
      with_reducible refine (CT.out _ HP).mono ?_
      rintro e w1 ⟨C, R, rfl, hcr, hb⟩
      have HP := Lib.hid (HP.out.on hb)
      obtain ⟨b0, b1, b2, p0, p1, p2, p3, p4, -⟩ := bpS HP.out
      clear hb CT
      have HCR := Lib.hid hcr
      clear hcr
      go_wp2_with fail
      with_reducible refine (CL.out C R _ HCR.out).mono ?_
      rintro e w2 ⟨rfl, hb⟩
      have HP := Lib.hid ((HP.out.on hb).on (box_b w2 (.cells #[.pointer none, .nilIface, .int .i64 0, .int .i64 0, .int .i64 0, .int .i64 0, .int .i64 0, .int .i64 0, .int .i64 0, .int .i64 0, .int .i64 0, .int .i64 0, .int .i64 0] 91)))
      clear hb b0 b1 b2 p0 p1 p2 p3 p4 CL
      go_wp2_with fail
      go_ret2
      exact ⟨rfl, HP.out.low⟩
  · have hp : poB r f xs k x n s u = false := by simpa using hp
    have hE : lvE r f xs k x n s u j = 1 := by rw [lvE_err (by rw [rvE_no hp]; omega), rvE_no hp]
    have HV : Hid (lvV 1 X = 0) := Lib.hid rfl
    rw [hE, HV.out]
    have CT : Hid (∀ W, Hid (BP w f (.slice a l c) r k x n s u W) → Calls Tryz.prog 48 #[.agg #[.int .i64 f, .slice a l c, .int .i64 r], .agg #[.int .i64 k, .int .i64 x, .int .i64 n, .int .i64 s, .int .i64 u]] W (TfNo W)) := Lib.hid (fun W hW => ico_no r f xs a l c k x n s u W (H.out.on hW.out.low) hlc hp)
    unfold TfNo at CT
    clear HV hE hp hX hwt
    go_enter Tryz.func35, Tryz.ntmps35
    go_wp2_with fail
    obtain ⟨W1, hW1⟩ : ∃ W1, ((w.alloc (.cells #[.int .i64 f, .slice a l c, .int .i64 r] 28)).alloc (.cells #[.int .i64 k, .int .i64 x, .int .i64 n, .int .i64 s, .int .i64 u] 30)) = W1 := ⟨_, rfl⟩
    rw [hW1] at HP ⊢
    clear hW1
    with_reducible refine (CT.out _ HP).mono ?_
    rintro e w1 ⟨rfl, hb⟩
    have HP := Lib.hid (HP.out.on hb)
    obtain ⟨b0, b1, b2, p0, p1, p2, p3, p4, -⟩ := bpS HP.out
    clear hb CT
    go_wp2_with fail
    go_ret2
    exact ⟨rfl, HP.out.low⟩

theorem isv12_any (r f : Int) (xs : List Int) (a : Option Addr) (l c : Nat) (k x n s u j : Int) (w : World) (h : Ints w a l xs) (hlc : l ≤ c) :
    Calls Tryz.prog 15 #[.agg #[.int .i64 f, .slice a l c, .int .i64 r], .agg #[.int .i64 k, .int .i64 x, .int .i64 n, .int .i64 s, .int .i64 u], .int .i64 j] w (IIPost (lvV (lvE r f xs k x n s u j) (lsvN r f xs k x n s j)) (lvE r f xs k x n s u j) w) := by
  have H := Lib.hid h
  clear h
  have HP := Lib.hid (BP.new w f (.slice a l c) r k x n s u 28 30)
  unfold IIPost
  have hF : mcF 0 = 97 := by unfold mcF; simp
  have CC : Hid (∀ W, Hid (BP w f (.slice a l c) r k x n s u W) → Calls Tryz.prog 35 #[.agg #[.int .i64 f, .slice a l c, .int .i64 r], .agg #[.int .i64 k, .int .i64 x, .int .i64 n, .int .i64 s, .int .i64 u], .int .i64 j, .int .i64 0] W (IIPost (lvV (lvE r f xs k x n s u j) (lsvN r f xs k x n s j)) (lvE r f xs k x n s u j) W)) := Lib.hid (fun W hW => ich_any 0 (lsvN r f xs k x n s j) (by omega) r f xs a l c k x n s u j W (H.out.on hW.out.low) hlc (fun he C R W hW => by rw [hF]; obtain ⟨he2, -⟩ := lvE_iff.1 he; obtain ⟨hp, hj, hd⟩ := rvE_iff.1 he2; unfold lvrV; exact isv_lit _ _ _ _ _ _ _ _ _ _ _ _ _ _ W))
  unfold IIPost at CC
  obtain ⟨V, hV⟩ : ∃ y_, lvV (lvE r f xs k x n s u j) (lsvN r f xs k x n s j) = y_ := ⟨_, rfl⟩
  obtain ⟨E, hE⟩ : ∃ y_, lvE r f xs k x n s u j = y_ := ⟨_, rfl⟩
  rw [hV, hE] at CC
  rw [hV, hE]
  clear hV hE hF
  go_enter Tryz.func15, Tryz.ntmps15
  go_wp2_with fail
  obtain ⟨W1, hW1⟩ : ∃ W1, ((w.alloc (.cells #[.int .i64 f, .slice a l c, .int .i64 r] 28)).alloc (.cells #[.int .i64 k, .int .i64 x, .int .i64 n, .int .i64 s, .int .i64 u] 30)) = W1 := ⟨_, rfl⟩
  rw [hW1] at HP ⊢
  clear hW1
  with_reducible refine (CC.out _ HP).mono ?_
  rintro e w1 ⟨rfl, hb⟩
  have HP := Lib.hid (HP.out.on hb)
  clear hb
  go_wp2_with fail
  go_ret2
  exact ⟨rfl, HP.out.low⟩

theorem ipu_any (r f : Int) (xs : List Int) (a : Option Addr) (l c : Nat) (k x n s u j : Int) (w : World) (h : Ints w a l xs) (hlc : l ≤ c) :
    Calls Tryz.prog 13 #[.agg #[.int .i64 f, .slice a l c, .int .i64 r], .agg #[.int .i64 k, .int .i64 x, .int .i64 n, .int .i64 s, .int .i64 u], .int .i64 j] w (IIPost (lvV (lvE r f xs k x n s u j) (puN r f xs k x n s j)) (lvE r f xs k x n s u j) w) := by
  have H := Lib.hid h
  clear h
  have HP := Lib.hid (BP.new w f (.slice a l c) r k x n s u 28 30)
  unfold IIPost
  have hF : mcF 1 = 98 := by unfold mcF; simp
  have CC : Hid (∀ W, Hid (BP w f (.slice a l c) r k x n s u W) → Calls Tryz.prog 35 #[.agg #[.int .i64 f, .slice a l c, .int .i64 r], .agg #[.int .i64 k, .int .i64 x, .int .i64 n, .int .i64 s, .int .i64 u], .int .i64 j, .int .i64 1] W (IIPost (lvV (lvE r f xs k x n s u j) (puN r f xs k x n s j)) (lvE r f xs k x n s u j) W)) := Lib.hid (fun W hW => ich_any 1 (puN r f xs k x n s j) (by omega) r f xs a l c k x n s u j W (H.out.on hW.out.low) hlc (fun he C R W hW => by rw [hF]; obtain ⟨he2, -⟩ := lvE_iff.1 he; obtain ⟨hp, hj, hd⟩ := rvE_iff.1 he2; exact ipu_l C R r f xs (.slice a l c) k x n s u j W hW hp hj hd))
  unfold IIPost at CC
  obtain ⟨V, hV⟩ : ∃ y_, lvV (lvE r f xs k x n s u j) (puN r f xs k x n s j) = y_ := ⟨_, rfl⟩
  obtain ⟨E, hE⟩ : ∃ y_, lvE r f xs k x n s u j = y_ := ⟨_, rfl⟩
  rw [hV, hE] at CC
  rw [hV, hE]
  clear hV hE hF
  go_enter Tryz.func13, Tryz.ntmps13
  go_wp2_with fail
  obtain ⟨W1, hW1⟩ : ∃ W1, ((w.alloc (.cells #[.int .i64 f, .slice a l c, .int .i64 r] 28)).alloc (.cells #[.int .i64 k, .int .i64 x, .int .i64 n, .int .i64 s, .int .i64 u] 30)) = W1 := ⟨_, rfl⟩
  rw [hW1] at HP ⊢
  clear hW1
  with_reducible refine (CC.out _ HP).mono ?_
  rintro e w1 ⟨rfl, hb⟩
  have HP := Lib.hid (HP.out.on hb)
  clear hb
  go_wp2_with fail
  go_ret2
  exact ⟨rfl, HP.out.low⟩

theorem iky_any (r f : Int) (xs : List Int) (a : Option Addr) (l c : Nat) (k x n s u j : Int) (w : World) (h : Ints w a l xs) (hlc : l ≤ c) :
    Calls Tryz.prog 23 #[.agg #[.int .i64 f, .slice a l c, .int .i64 r], .agg #[.int .i64 k, .int .i64 x, .int .i64 n, .int .i64 s, .int .i64 u], .int .i64 j] w (IIPost (lvV (lvE r f xs k x n s u j) (kyN r f xs k x n s j)) (lvE r f xs k x n s u j) w) := by
  have H := Lib.hid h
  clear h
  have HP := Lib.hid (BP.new w f (.slice a l c) r k x n s u 28 30)
  unfold IIPost
  have hF : mcF 2 = 99 := by unfold mcF; simp
  have CC : Hid (∀ W, Hid (BP w f (.slice a l c) r k x n s u W) → Calls Tryz.prog 35 #[.agg #[.int .i64 f, .slice a l c, .int .i64 r], .agg #[.int .i64 k, .int .i64 x, .int .i64 n, .int .i64 s, .int .i64 u], .int .i64 j, .int .i64 2] W (IIPost (lvV (lvE r f xs k x n s u j) (kyN r f xs k x n s j)) (lvE r f xs k x n s u j) W)) := Lib.hid (fun W hW => ich_any 2 (kyN r f xs k x n s j) (by omega) r f xs a l c k x n s u j W (H.out.on hW.out.low) hlc (fun he C R W hW => by rw [hF]; obtain ⟨he2, -⟩ := lvE_iff.1 he; obtain ⟨hp, hj, hd⟩ := rvE_iff.1 he2; exact iky_l C R r f xs (.slice a l c) k x n s u j W hW hp hj hd))
  unfold IIPost at CC
  obtain ⟨V, hV⟩ : ∃ y_, lvV (lvE r f xs k x n s u j) (kyN r f xs k x n s j) = y_ := ⟨_, rfl⟩
  obtain ⟨E, hE⟩ : ∃ y_, lvE r f xs k x n s u j = y_ := ⟨_, rfl⟩
  rw [hV, hE] at CC
  rw [hV, hE]
  clear hV hE hF
  go_enter Tryz.func23, Tryz.ntmps23
  go_wp2_with fail
  obtain ⟨W1, hW1⟩ : ∃ W1, ((w.alloc (.cells #[.int .i64 f, .slice a l c, .int .i64 r] 28)).alloc (.cells #[.int .i64 k, .int .i64 x, .int .i64 n, .int .i64 s, .int .i64 u] 30)) = W1 := ⟨_, rfl⟩
  rw [hW1] at HP ⊢
  clear hW1
  with_reducible refine (CC.out _ HP).mono ?_
  rintro e w1 ⟨rfl, hb⟩
  have HP := Lib.hid (HP.out.on hb)
  clear hb
  go_wp2_with fail
  go_ret2
  exact ⟨rfl, HP.out.low⟩

theorem ill_any (r f : Int) (xs : List Int) (a : Option Addr) (l c : Nat) (k x n s u j : Int) (w : World) (h : Ints w a l xs) (hlc : l ≤ c) :
    Calls Tryz.prog 19 #[.agg #[.int .i64 f, .slice a l c, .int .i64 r], .agg #[.int .i64 k, .int .i64 x, .int .i64 n, .int .i64 s, .int .i64 u], .int .i64 j] w (IIPost (lvV (lvE r f xs k x n s u j) (lsvN r f xs k x n s j * 800 / 1000)) (lvE r f xs k x n s u j) w) := by
  have H := Lib.hid h
  clear h
  have HP := Lib.hid (BP.new w f (.slice a l c) r k x n s u 28 30)
  unfold IIPost
  have hF : mcF 3 = 100 := by unfold mcF; simp
  have CC : Hid (∀ W, Hid (BP w f (.slice a l c) r k x n s u W) → Calls Tryz.prog 35 #[.agg #[.int .i64 f, .slice a l c, .int .i64 r], .agg #[.int .i64 k, .int .i64 x, .int .i64 n, .int .i64 s, .int .i64 u], .int .i64 j, .int .i64 3] W (IIPost (lvV (lvE r f xs k x n s u j) (lsvN r f xs k x n s j * 800 / 1000)) (lvE r f xs k x n s u j) W)) := Lib.hid (fun W hW => ich_any 3 (lsvN r f xs k x n s j * 800 / 1000) (by omega) r f xs a l c k x n s u j W (H.out.on hW.out.low) hlc (fun he C R W hW => by rw [hF]; obtain ⟨he2, -⟩ := lvE_iff.1 he; obtain ⟨hp, hj, hd⟩ := rvE_iff.1 he2; unfold lvrV; obtain ⟨q, v9, e1, e2, e3, q0, q1, v0, v1, v2⟩ := lv_nums hp hj hd; rw [e1, e2]; exact ill_lit _ _ _ _ _ _ _ _ _ _ _ _ _ _ W v0 (by omega)))
  unfold IIPost at CC
  obtain ⟨V, hV⟩ : ∃ y_, lvV (lvE r f xs k x n s u j) (lsvN r f xs k x n s j * 800 / 1000) = y_ := ⟨_, rfl⟩
  obtain ⟨E, hE⟩ : ∃ y_, lvE r f xs k x n s u j = y_ := ⟨_, rfl⟩
  rw [hV, hE] at CC
  rw [hV, hE]
  clear hV hE hF
  go_enter Tryz.func19, Tryz.ntmps19
  go_wp2_with fail
  obtain ⟨W1, hW1⟩ : ∃ W1, ((w.alloc (.cells #[.int .i64 f, .slice a l c, .int .i64 r] 28)).alloc (.cells #[.int .i64 k, .int .i64 x, .int .i64 n, .int .i64 s, .int .i64 u] 30)) = W1 := ⟨_, rfl⟩
  rw [hW1] at HP ⊢
  clear hW1
  with_reducible refine (CC.out _ HP).mono ?_
  rintro e w1 ⟨rfl, hb⟩
  have HP := Lib.hid (HP.out.on hb)
  clear hb
  go_wp2_with fail
  go_ret2
  exact ⟨rfl, HP.out.low⟩

theorem ils_any (r f : Int) (xs : List Int) (a : Option Addr) (l c : Nat) (k x n s u j : Int) (w : World) (h : Ints w a l xs) (hlc : l ≤ c) :
    Calls Tryz.prog 17 #[.agg #[.int .i64 f, .slice a l c, .int .i64 r], .agg #[.int .i64 k, .int .i64 x, .int .i64 n, .int .i64 s, .int .i64 u], .int .i64 j] w (IIPost (lvV (lvE r f xs k x n s u j) (ktN r f xs k x n s j - lsvN r f xs k x n s j)) (lvE r f xs k x n s u j) w) := by
  have H := Lib.hid h
  clear h
  have HP := Lib.hid (BP.new w f (.slice a l c) r k x n s u 28 30)
  unfold IIPost
  have hF : mcF 4 = 101 := by unfold mcF; simp
  have CC : Hid (∀ W, Hid (BP w f (.slice a l c) r k x n s u W) → Calls Tryz.prog 35 #[.agg #[.int .i64 f, .slice a l c, .int .i64 r], .agg #[.int .i64 k, .int .i64 x, .int .i64 n, .int .i64 s, .int .i64 u], .int .i64 j, .int .i64 4] W (IIPost (lvV (lvE r f xs k x n s u j) (ktN r f xs k x n s j - lsvN r f xs k x n s j)) (lvE r f xs k x n s u j) W)) := Lib.hid (fun W hW => ich_any 4 (ktN r f xs k x n s j - lsvN r f xs k x n s j) (by omega) r f xs a l c k x n s u j W (H.out.on hW.out.low) hlc (fun he C R W hW => by rw [hF]; obtain ⟨he2, -⟩ := lvE_iff.1 he; obtain ⟨hp, hj, hd⟩ := rvE_iff.1 he2; unfold lvrV; obtain ⟨q, v9, e1, e2, e3, q0, q1, v0, v1, v2⟩ := lv_nums hp hj hd; rw [e1, e2]; exact ils_lit _ _ _ _ _ _ _ _ _ _ _ _ _ _ W (by omega) (by omega)))
  unfold IIPost at CC
  obtain ⟨V, hV⟩ : ∃ y_, lvV (lvE r f xs k x n s u j) (ktN r f xs k x n s j - lsvN r f xs k x n s j) = y_ := ⟨_, rfl⟩
  obtain ⟨E, hE⟩ : ∃ y_, lvE r f xs k x n s u j = y_ := ⟨_, rfl⟩
  rw [hV, hE] at CC
  rw [hV, hE]
  clear hV hE hF
  go_enter Tryz.func17, Tryz.ntmps17
  go_wp2_with fail
  obtain ⟨W1, hW1⟩ : ∃ W1, ((w.alloc (.cells #[.int .i64 f, .slice a l c, .int .i64 r] 28)).alloc (.cells #[.int .i64 k, .int .i64 x, .int .i64 n, .int .i64 s, .int .i64 u] 30)) = W1 := ⟨_, rfl⟩
  rw [hW1] at HP ⊢
  clear hW1
  with_reducible refine (CC.out _ HP).mono ?_
  rintro e w1 ⟨rfl, hb⟩
  have HP := Lib.hid (HP.out.on hb)
  clear hb
  go_wp2_with fail
  go_ret2
  exact ⟨rfl, HP.out.low⟩

set_option maxHeartbeats 8000000 in
theorem ibl_c (C R : Nat) (r f : Int) (xs : List Int) (v : Value) (k x n s u : Int) (w : World) (h : Crs C R r f xs v k x n s u w) (hp : poB r f xs k x n s u = true) :
    Calls Tryz.prog 49 #[.pointer (some ⟨C, 0, none⟩), .int .i64 (offN (netN r f xs k x n s) u)] w (IIIPost (blK r f xs k x n s u) (blV r f xs k x n s u) (blE r f xs k x n s u) w) := by
  unfold IIIPost
  have hdp := dur_pos hp
  obtain ⟨ht0, ⟨r0, r1⟩, -, -, -, ⟨hx0, hx1⟩, -, hf0, hf1⟩ := rv_in (j := 0) hp ⟨by omega, by omega⟩
  have c16 := h.dur
  by_cases hlow : durN f xs k x n ≤ 2
  · have hE := blE_low hp hlow
    have HKV := (bl_kv hp rfl).2 (by rw [hE]; omega)
    rw [hE, HKV.1, HKV.2]
    obtain ⟨E, hEE⟩ : ∃ y_, durN f xs k x n = y_ := ⟨_, rfl⟩
    rw [hEE] at c16 hlow
    clear hE HKV hEE h hp hdp ht0 r0 r1 hx0 hx1 hf0 hf1
    go_enter Tryz.func49, Tryz.ntmps49
    go_wp2_with fail
    go_ret3
    exact ⟨rfl, Below.refl _ _⟩
  · obtain ⟨m, hm⟩ : ∃ m : Nat, (durN f xs k x n - 2).toNat = m := ⟨_, rfl⟩
    have hmE : (m : Int) = durN f xs k x n - 2 := by omega
    have hdd : ∀ i : Nat, cD r xs ((x - f).toNat + 2 + i) ≠ 0 → dvN r f xs x ((i : Int) + 2) ≠ 0 := fun i h => by
      unfold dvN
      rw [show (x + ((i : Int) + 2) - f).toNat = (x - f).toNat + 2 + i by omega]
      exact h
    have CN : Hid (∀ (i : Nat) W, i < m → cD r xs ((x - f).toNat + 2 + i) = 0 → Hid (Below w.heap.size w W) → Calls Tryz.prog 59 #[.pointer (some ⟨C, 0, none⟩), .int .i64 ((i : Int) + 2)] W (YrPost lvrZ 5 W)) :=
      Lib.hid (fun i W hi hz hW => ile_err C R r f xs v k x n s u ((i : Int) + 2) 5 W (h.on hW.out) (by omega) (fun W2 hW2 => iin_zero C R r f xs v k x n s u ((i : Int) + 2) W2 hW2 hp ((inB_iff _ _ _).2 ⟨by omega, by omega⟩) (by
        unfold dvN
        rw [show (x + ((i : Int) + 2) - f).toNat = (x - f).toNat + 2 + i by omega]
        exact hz)))
    have CY : Hid (∀ (i : Nat) W, i < m → cD r xs ((x - f).toNat + 2 + i) ≠ 0 → Hid (Below w.heap.size w W) → Calls Tryz.prog 59 #[.pointer (some ⟨C, 0, none⟩), .int .i64 ((i : Int) + 2)] W (YrPost (lvrV C r f xs k x n ((i : Int) + 2) (ktN r f xs k x n s ((i : Int) + 2)) (lsvN r f xs k x n s ((i : Int) + 2))) 0 W)) :=
      Lib.hid (fun i W hi hz hW => ile_yes C R r f xs v k x n s u ((i : Int) + 2) W (h.on hW.out) hp ⟨by omega, by omega⟩ (hdd i hz))
    have HG : Hid (∀ i : Nat, i < m → cD r xs ((x - f).toNat + 2 + i) ≠ 0 → ∃ v g : Int, lsvN r f xs k x n s ((i : Int) + 2) = v ∧ 0 ≤ v ∧ v ≤ 20000000001 ∧ blG r f xs k x n s u i = g ∧ g = v - ((i : Int) + 2) * offN (netN r f xs k x n s) u) := Lib.hid (fun i hi hz => by
      obtain ⟨q, v, e1, e2, e3, q0, q1, v0, v1, v2⟩ := lv_nums hp (j := ((i : Int) + 2)) ⟨by omega, by omega⟩ (hdd i hz)
      exact ⟨v, _, e2, v0, v2, rfl, by unfold blG; rw [e2]⟩)
    obtain ⟨pp, g4, p0_, p1_, -, -, u0, u1, o1, o2⟩ := off_nums hp
    rw [← g4] at o1 o2 p0_ p1_
    have o0 : 0 ≤ offN (netN r f xs k x n s) u := by omega
    have o9 : offN (netN r f xs k x n s) u ≤ 200000002 := by omega
    have HQ9 : Hid (∀ i : Nat, i < m → 0 ≤ ((i : Int) + 2) * offN (netN r f xs k x n s) u ∧ ((i : Int) + 2) * offN (netN r f xs k x n s) u ≤ 24000000240) := Lib.hid (fun i hi => ⟨Int.mul_nonneg (by omega) o0, by
      have : ((i : Int) + 2) * offN (netN r f xs k x n s) u ≤ 120 * 200000002 := Int.le_trans (Int.mul_le_mul_of_nonneg_left o9 (by omega)) (Int.mul_le_mul_of_nonneg_right (by omega) (by omega))
      omega⟩)
    have HEE : Hid (blE r f xs k x n s u = if npB r xs ((x - f).toNat + 2) m = true then 0 else 5) := Lib.hid (by unfold blE; rw [if_pos hp, if_neg hlow, hm])
    have HKV := Lib.hid (bl_kv hp hm)
    have HDUR : Hid (∀ W, Hid (Below w.heap.size w W) → W.cell? ⟨C, 16, none⟩ = some (.int .i64 (durN f xs k x n))) := Lib.hid (fun W hW => (h.on hW.out).dur)
    obtain ⟨E, hE⟩ : ∃ y_, durN f xs k x n = y_ := ⟨_, rfl⟩
    obtain ⟨O, hO⟩ : ∃ y_, offN (netN r f xs k x n s) u = y_ := ⟨_, rfl⟩
    obtain ⟨GG, hG⟩ : ∃ y_, blG r f xs k x n s u = y_ := ⟨_, rfl⟩
    obtain ⟨KK, hKK⟩ : ∃ y_, blK r f xs k x n s u = y_ := ⟨_, rfl⟩
    obtain ⟨VV, hVV⟩ : ∃ y_, blV r f xs k x n s u = y_ := ⟨_, rfl⟩
    obtain ⟨EE, hEE⟩ : ∃ y_, blE r f xs k x n s u = y_ := ⟨_, rfl⟩
    obtain ⟨K, hK⟩ : ∃ y_, (x - f).toNat + 2 = y_ := ⟨_, rfl⟩
    rw [hE] at HDUR hmE c16 hlow
    rw [hO] at HG HQ9
    rw [hG] at HG HKV
    rw [hKK, hVV, hEE] at HKV
    rw [hEE] at HEE
    rw [hK] at CN CY HG HEE
    rw [hKK, hVV, hEE, hO]
    have hE9 : E ≤ 120 := by omega
    have HW0 : Hid (Below w.heap.size w w) := Lib.hid (Below.refl _ _)
    clear hE hO hG hKK hVV hEE hK hm hdp hp o0 o9 o1 o2 g4 p0_ p1_ hdd ht0 h
    go_enter Tryz.func49, Tryz.ntmps49
    go_wp2_with fail
    clear c16
    go_loopw [7, 8, 9] (fun p_ q_ i wr => ∃ (t : Nat) (gq : Int), t ≤ m ∧ i = .int .i64 ((t : Int) + 2) ∧ p_ = .int .i64 (bmK GG t) ∧ q_ = .int .i64 gq ∧ Hid (t = 0 → gq = -9223372036854775808) ∧ Hid (t ≠ 0 → gq = bmV GG t) ∧ Hid (Below w.heap.size w wr) ∧ Hid (∀ k, k < t → cD r xs (K + k) ≠ 0)) (fun _ _ i _ => (E - intOf i).toNat)
    case atStart => exact ⟨0, -9223372036854775808, by omega, rfl, rfl, rfl, Lib.hid (fun _ => rfl), Lib.hid (fun h => absurd rfl h), HW0, Lib.hid (fun k hk => by omega)⟩
    case round =>
      clear HW0
      obtain ⟨t, gq, hj, rfl, rfl, rfl, HF0, HF1, HW, HZ⟩ := hrel
      have c16 := HDUR.out _ HW
      by_cases hlt : (t : Int) + 2 < E
      · have htm : t < m := by omega
        have HLT : Hid (t < m) := Lib.hid htm
        by_cases hz : cD r xs (K + t) = 0
        · have HE5 : Hid (EE = 5) := Lib.hid (by rw [HEE.out, npB_no HLT.out hz]; simp)
          have CC := Lib.hid (CN.out t · HLT.out hz)
          unfold YrPost lvrZ at CC
          clear hz
          go_wp2_with fail
          with_reducible refine (CC.out _ HW).mono ?_
          rintro e w2 ⟨rfl, hb⟩
          have HW2 := Lib.hid ((HW.out.trans (hb.mono HW.out.size)).trans ((box_b w2 (.cells #[.pointer none, .nilIface, .int .i64 0, .int .i64 0, .int .i64 0, .int .i64 0, .int .i64 0, .int .i64 0, .int .i64 0, .int .i64 0, .int .i64 0, .int .i64 0, .int .i64 0] 91)).mono (Nat.le_trans HW.out.size hb.size)))
          clear hb
          go_wp2_with fail
          go_ret3
          exact ⟨ret_3p ((HKV.out.2 (by rw [HE5.out]; omega)).1.symm) ((HKV.out.2 (by rw [HE5.out]; omega)).2.symm) HE5.out.symm, HW2.out⟩
        · have CC := Lib.hid (CY.out t · HLT.out hz)
          have HZ2 : Hid (∀ k, k < t + 1 → cD r xs (K + k) ≠ 0) := Lib.hid (fun k hk => by
            by_cases e : k = t
            · subst e; exact hz
            · exact HZ.out k (by omega))
          obtain ⟨v9, g, e1, v0, v1, eg, eg2⟩ := HG.out t HLT.out hz
          obtain ⟨z0, z1⟩ := HQ9.out t HLT.out
          rw [e1] at CC
          obtain ⟨q, hq⟩ : ∃ y_, ktN r f xs k x n s ((t : Int) + 2) = y_ := ⟨_, rfl⟩
          rw [hq] at CC
          have HUP := Lib.hid (bm_up GG t)
          have HSM := Lib.hid (bm_same GG t)
          rw [eg] at HUP HSM
          subst eg2
          obtain ⟨Z, hZ⟩ : ∃ y_, ((t : Int) + 2) * O = y_ := ⟨_, rfl⟩
          rw [hZ] at z0 z1 HUP HSM
          have q3 : IntKind.i64.wrap (((t : Int) + 2) * O) = Z := by rw [hZ]; exact IntWalk.i64_in _ (by omega)
          have q4 : IntKind.i64.wrap (v9 - Z) = v9 - Z := IntWalk.i64_in _ (by omega)
          obtain ⟨BK, hBK⟩ : ∃ y_, bmK GG t = y_ := ⟨_, rfl⟩
          obtain ⟨BV, hBV⟩ : ∃ y_, bmV GG t = y_ := ⟨_, rfl⟩
          rw [hBK, hBV] at HSM
          rw [hBV] at HUP HF1
          rw [hBK]
          unfold YrPost lvrV at CC
          clear hZ hz e1 eg HZ hBK hBV hq
          obtain ⟨g0, hg0⟩ : ∃ y_, cD r xs (x + ((t : Int) + 2) - f).toNat = y_ := ⟨_, rfl⟩
          obtain ⟨g1, hg1⟩ : ∃ y_, cN r xs (x + ((t : Int) + 2) - f).toNat = y_ := ⟨_, rfl⟩
          obtain ⟨g2, hg2⟩ : ∃ y_, cC r xs (x + ((t : Int) + 2) - f).toNat = y_ := ⟨_, rfl⟩
          obtain ⟨g3, hg3⟩ : ∃ y_, cM r xs (x + ((t : Int) + 2) - f).toNat = y_ := ⟨_, rfl⟩
          rw [hg0, hg1, hg2, hg3] at CC
          clear hg0 hg1 hg2 hg3
          obtain ⟨g4, hg0⟩ : ∃ y_, cD r xs (x + ((t : Int) + 2) + lfN k n ((t : Int) + 2) - f).toNat = y_ := ⟨_, rfl⟩
          obtain ⟨g5, hg1⟩ : ∃ y_, cN r xs (x + ((t : Int) + 2) + lfN k n ((t : Int) + 2) - f).toNat = y_ := ⟨_, rfl⟩
          obtain ⟨g6, hg2⟩ : ∃ y_, cC r xs (x + ((t : Int) + 2) + lfN k n ((t : Int) + 2) - f).toNat = y_ := ⟨_, rfl⟩
          obtain ⟨g7, hg3⟩ : ∃ y_, cM r xs (x + ((t : Int) + 2) + lfN k n ((t : Int) + 2) - f).toNat = y_ := ⟨_, rfl⟩
          rw [hg0, hg1, hg2, hg3] at CC
          clear hg0 hg1 hg2 hg3
          obtain ⟨T, hT⟩ : ∃ y_, kT k = y_ := ⟨_, rfl⟩
          rw [hT] at CC
          clear hT
          have HREL : Hid (∀ wr (i p q : Int), i = (t : Int) + 2 + 1 → p = bmK GG (t + 1) → q = bmV GG (t + 1) → Hid (Below w.heap.size w wr) → ∃ (t' : Nat) (gq' : Int), t' ≤ m ∧ Value.int .i64 i = .int .i64 ((t' : Int) + 2) ∧ Value.int .i64 p = .int .i64 (bmK GG t') ∧ Value.int .i64 q = .int .i64 gq' ∧ Hid (t' = 0 → gq' = -9223372036854775808) ∧ Hid (t' ≠ 0 → gq' = bmV GG t') ∧ Hid (Below w.heap.size w wr) ∧ Hid (∀ k, k < t' → cD r xs (K + k) ≠ 0)) :=
            Lib.hid (fun wr i p q h1 h2 h3 h4 => ⟨t + 1, q, HLT.out, by rw [h1]; exact congrArg (Value.int .i64) (by omega), by rw [h2], rfl, Lib.hid (fun h => by omega), Lib.hid (fun _ => h3), h4, HZ2⟩)
          by_cases hgt : gq < v9 - Z
          · have HUQ : Hid (bmK GG (t + 1) = (t : Int) + 2 ∧ bmV GG (t + 1) = v9 - Z) := Lib.hid (HUP.out (by
              by_cases h0 : t = 0
              · exact .inl h0
              · exact .inr (by rw [← HF1.out h0]; exact hgt)))
            go_wp2_with fail
            with_reducible refine (CC.out _ HW).mono ?_
            rintro e w2 ⟨rfl, hb⟩
            have HW2 := Lib.hid ((HW.out.trans (hb.mono HW.out.size)).trans ((box_b w2 (.cells #[.pointer (some ⟨C, 0, none⟩), .iface T (.agg #[]), .int .i64 g0, .int .i64 g1, .int .i64 g2, .int .i64 g3, .int .i64 g4, .int .i64 g5, .int .i64 g6, .int .i64 g7, .int .i64 ((t : Int) + 2), .int .i64 q, .int .i64 v9] 91)).mono (Nat.le_trans HW.out.size hb.size)))
            clear hb
            go_wp2_with fail
            go_roundw
            case rel => exact HREL.out _ _ _ _ (by omega) HUQ.out.1.symm HUQ.out.2.symm HW2
            case measure => simp [intOf] <;> omega
          · have HUQ : Hid (bmK GG (t + 1) = BK ∧ bmV GG (t + 1) = gq) := Lib.hid (by
              have h0 : t ≠ 0 := by
                intro h0
                have := HF0.out h0
                omega
              have := HF1.out h0
              obtain ⟨h1, h2⟩ := HSM.out h0 (by omega)
              exact ⟨h1, by rw [h2]; exact this.symm⟩)
            go_wp2_with fail
            with_reducible refine (CC.out _ HW).mono ?_
            rintro e w2 ⟨rfl, hb⟩
            have HW2 := Lib.hid ((HW.out.trans (hb.mono HW.out.size)).trans ((box_b w2 (.cells #[.pointer (some ⟨C, 0, none⟩), .iface T (.agg #[]), .int .i64 g0, .int .i64 g1, .int .i64 g2, .int .i64 g3, .int .i64 g4, .int .i64 g5, .int .i64 g6, .int .i64 g7, .int .i64 ((t : Int) + 2), .int .i64 q, .int .i64 v9] 91)).mono (Nat.le_trans HW.out.size hb.size)))
            clear hb
            go_wp2_with fail
            go_roundw
            case rel => exact HREL.out _ _ _ _ (by omega) HUQ.out.1.symm HUQ.out.2.symm HW2
            case measure => simp [intOf] <;> omega
      · have htm : t = m := by omega
        subst htm
        have h0 : t ≠ 0 := by omega
        have HE0 : Hid (EE = 0) := Lib.hid (by rw [HEE.out, npB_yes HZ.out]; simp)
        have HGQ : Hid (gq = bmV GG t) := Lib.hid (HF1.out h0)
        obtain ⟨BK, hBK⟩ : ∃ y_, bmK GG t = y_ := ⟨_, rfl⟩
        rw [hBK] at HKV ⊢
        clear hBK
        go_wp2_with fail
        go_ret3
        exact ⟨ret_3p (HKV.out.1 HE0.out).1.symm (by rw [(HKV.out.1 HE0.out).2, HGQ.out]) HE0.out.symm, HW.out⟩

set_option maxHeartbeats 4000000 in
theorem ibl_any (r f : Int) (xs : List Int) (a : Option Addr) (l c : Nat) (k x n s u : Int) (w : World) (h : Ints w a l xs) (hlc : l ≤ c) :
    Calls Tryz.prog 26 #[.agg #[.int .i64 f, .slice a l c, .int .i64 r], .agg #[.int .i64 k, .int .i64 x, .int .i64 n, .int .i64 s, .int .i64 u]] w (IIIPost (blK r f xs k x n s u) (blV r f xs k x n s u) (blE r f xs k x n s u) w) := by
  have H := Lib.hid h
  clear h
  have HP := Lib.hid (BP.new w f (.slice a l c) r k x n s u 28 30)
  unfold IIIPost
  by_cases hp : poB r f xs k x n s u = true
  · have CT : Hid (∀ W, Hid (BP w f (.slice a l c) r k x n s u W) → Calls Tryz.prog 48 #[.agg #[.int .i64 f, .slice a l c, .int .i64 r], .agg #[.int .i64 k, .int .i64 x, .int .i64 n, .int .i64 s, .int .i64 u]] W (CoYes r f xs (.slice a l c) k x n s u W)) := Lib.hid (fun W hW => ico_yes r f xs a l c k x n s u W (H.out.on hW.out.low) hlc hp)
    unfold CoYes at CT
    have CO : Hid (∀ W, Hid (BP w f (.slice a l c) r k x n s u W) → Calls Tryz.prog 28 #[.agg #[.int .i64 f, .slice a l c, .int .i64 r], .agg #[.int .i64 k, .int .i64 x, .int .i64 n, .int .i64 s, .int .i64 u]] W (IIPost (offV r f xs k x n s u) (poE r f xs k x n s u) W)) := Lib.hid (fun W hW => iop_any r f xs a l c k x n s u W (H.out.on hW.out.low) hlc)
    have hO : offV r f xs k x n s u = offN (netN r f xs k x n s) u := by unfold offV; rw [if_pos hp]
    rw [hO, poE_yes hp] at CO
    unfold IIPost at CO
    have CB : Hid (∀ C R W, Crs C R r f xs (.slice a l c) k x n s u W → Calls Tryz.prog 49 #[.pointer (some ⟨C, 0, none⟩), .int .i64 (offN (netN r f xs k x n s) u)] W (IIIPost (blK r f xs k x n s u) (blV r f xs k x n s u) (blE r f xs k x n s u) W)) := Lib.hid (fun C R W hW => ibl_c C R r f xs (.slice a l c) k x n s u W hW hp)
    unfold IIIPost at CB
    obtain ⟨O, hOO⟩ : ∃ y_, offN (netN r f xs k x n s) u = y_ := ⟨_, rfl⟩
    obtain ⟨KK, hKK⟩ : ∃ y_, blK r f xs k x n s u = y_ := ⟨_, rfl⟩
    obtain ⟨VV, hVV⟩ : ∃ y_, blV r f xs k x n s u = y_ := ⟨_, rfl⟩
    obtain ⟨EE, hEE⟩ : ∃ y_, blE r f xs k x n s u = y_ := ⟨_, rfl⟩
    rw [hOO] at CO CB
    rw [hKK, hVV, hEE] at CB
    rw [hKK, hVV, hEE]
    clear hO hOO hKK hVV hEE hp
    go_enter Tryz.func26, Tryz.ntmps26
    go_wp2_with fail
    obtain ⟨W1, hW1⟩ : ∃ W1, ((w.alloc (.cells #[.int .i64 f, .slice a l c, .int .i64 r] 28)).alloc (.cells #[.int .i64 k, .int .i64 x, .int .i64 n, .int .i64 s, .int .i64 u] 30)) = W1 := ⟨_, rfl⟩
    rw [hW1] at HP ⊢
    clear hW1
    with_reducible refine (CT.out _ HP).mono ?_
    rintro e w1 ⟨C, R, rfl, hcr, hb⟩
    have HP := Lib.hid (HP.out.on hb)
    obtain ⟨b0, b1, b2, p0, p1, p2, p3, p4, -⟩ := bpS HP.out
    clear hb CT
    have HCR := Lib.hid hcr
    clear hcr
    go_wp2_with fail
    with_reducible refine (CO.out _ HP).mono ?_
    rintro e w2 ⟨rfl, hb⟩
    have HP := Lib.hid (HP.out.on hb)
    have HCR := Lib.hid (HCR.out.on hb)
    clear hb b0 b1 b2 p0 p1 p2 p3 p4
    go_wp2_with fail
    with_reducible refine (CB.out C R _ HCR.out).mono ?_
    rintro e w3 ⟨rfl, hb⟩
    have HP := Lib.hid (HP.out.on hb)
    clear hb
    go_wp2_with fail
    go_ret3
    exact ⟨rfl, HP.out.low⟩
  · have hp : poB r f xs k x n s u = false := by simpa using hp
    have hE := blE_no hp
    have HV : Hid (blK r f xs k x n s u = 0 ∧ blV r f xs k x n s u = 0) := Lib.hid (by
      unfold blK blV
      rw [hE]
      exact ⟨rfl, rfl⟩)
    rw [hE, HV.out.1, HV.out.2]
    have CT : Hid (∀ W, Hid (BP w f (.slice a l c) r k x n s u W) → Calls Tryz.prog 48 #[.agg #[.int .i64 f, .slice a l c, .int .i64 r], .agg #[.int .i64 k, .int .i64 x, .int .i64 n, .int .i64 s, .int .i64 u]] W (TfNo W)) := Lib.hid (fun W hW => ico_no r f xs a l c k x n s u W (H.out.on hW.out.low) hlc hp)
    unfold TfNo at CT
    clear HV hE hp
    go_enter Tryz.func26, Tryz.ntmps26
    go_wp2_with fail
    obtain ⟨W1, hW1⟩ : ∃ W1, ((w.alloc (.cells #[.int .i64 f, .slice a l c, .int .i64 r] 28)).alloc (.cells #[.int .i64 k, .int .i64 x, .int .i64 n, .int .i64 s, .int .i64 u] 30)) = W1 := ⟨_, rfl⟩
    rw [hW1] at HP ⊢
    clear hW1
    with_reducible refine (CT.out _ HP).mono ?_
    rintro e w1 ⟨rfl, hb⟩
    have HP := Lib.hid (HP.out.on hb)
    obtain ⟨b0, b1, b2, p0, p1, p2, p3, p4, -⟩ := bpS HP.out
    clear hb CT
    go_wp2_with fail
    go_ret3
    exact ⟨rfl, HP.out.low⟩

end Go.Proofs.YtdlfofdibooidaaGreat

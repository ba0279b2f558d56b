/- Merged: Rvs, Rvj, Lvn. -/
import Derived.Test.YtdlfofdibooidaaGreatLb10
import Derived.Test.YtdlfofdibooidaaGreatLb12

/- Reserves: the model's side. (Written by wip/gen/rvs.py.) | Reserves: the model's three reserves and the denominator. (Written by wip/gen/rvt.py.) -/
namespace Go.Proofs.YtdlfofdibooidaaGreat
open Go.ChangeShapes Go.WideShapes Go.ChangeAt Go.RowKit
set_option linter.unusedVariables false
set_option maxRecDepth 100000

set_option maxHeartbeats 4000000 in
theorem rcode_any (r f : Int) (xs : List Int) (a : Option Addr) (l c : Nat) (k x n s u j : Int) (w : World) (h : Ints w a l xs) :
    Calls Tryz.prog 61 #[.agg #[.int .i64 f, .slice a l c, .int .i64 r], .agg #[.int .i64 k, .int .i64 x, .int .i64 n, .int .i64 s, .int .i64 u], .int .i64 j] w fun e w' => e = .returned (.int .i64 (rvE r f xs k x n s u j)) ∧ Below w.heap.size w w' := by
  have H := Lib.hid h
  clear h
  have HP := Lib.hid (BP.new w f (.slice a l c) r k x n s u 28 30)
  have CP : Hid (∀ W, Hid (BP w f (.slice a l c) r k x n s u W) → Calls Tryz.prog 50 #[.agg #[.int .i64 f, .slice a l c, .int .i64 r], .agg #[.int .i64 k, .int .i64 x, .int .i64 n, .int .i64 s, .int .i64 u]] W fun e w' => e = .returned (.bool (poB r f xs k x n s u)) ∧ Below W.heap.size W w') :=
    Lib.hid (fun W hW => spol_any r f xs a l c k x n s u W (H.out.on hW.out.low))
  by_cases hp : poB r f xs k x n s u = true
  · have CL : Hid (∀ W, Hid (BP w f (.slice a l c) r k x n s u W) → Calls Tryz.prog 44 #[.agg #[.int .i64 f, .slice a l c, .int .i64 r], .agg #[.int .i64 k, .int .i64 x, .int .i64 n, .int .i64 s, .int .i64 u]] W fun e w' => e = .returned (.int .i64 (durN f xs k x n)) ∧ Below W.heap.size W w') :=
      Lib.hid (fun W hW => sdur_any r f xs a l c k x n s u W (H.out.on hW.out.low) hp)
    have hd := dur_pos hp
    have q1 : IntKind.i64.wrap (durN f xs k x n - 1) = durN f xs k x n - 1 := IntWalk.i64_in _ (by omega)
    by_cases hi : inB j 0 (durN f xs k x n - 1) = true
    · have hj := (inB_iff _ _ _).1 hi
      obtain ⟨ht, ⟨r0, r1⟩, ⟨hk, hkl⟩, ⟨l0, l1⟩, ⟨y0, y1, y2⟩, ⟨x0, x1⟩, ⟨n0, n1⟩, f0, f1⟩ := rv_in hp hj
      have CD : Hid (∀ W, Hid (BP w f (.slice a l c) r k x n s u W) → Calls Tryz.prog 43 #[.agg #[.int .i64 f, .slice a l c], .int .i64 r, .int .i64 (x + j)] W fun e w' => e = .returned (.int .i64 (dvN r f xs x j)) ∧ Below W.heap.size W w') :=
        Lib.hid (fun W hW => sD_any r f xs a l c (x + j) W (H.out.on hW.out.low) ht r0 r1 y0 (by omega))
      have q2 : IntKind.i64.wrap (x + j) = x + j := IntWalk.i64_in _ (by omega)
      by_cases hz : dvN r f xs x j = 0
      · rw [rvE_zero hp hi hz]
        rw [hp] at CP
        rw [hz] at CD
        obtain ⟨E, hE⟩ : ∃ y_, durN f xs k x n = y_ := ⟨_, rfl⟩
        rw [hE] at CL q1 hi
        clear hp hz hj hd ht hE
        go_enter Tryz.func61, Tryz.ntmps61
        go_wp2_with fail
        obtain ⟨W1, hW1⟩ : ∃ W1, ((w.alloc (.cells #[.int .i64 f, .slice a l c, .int .i64 r] 28)).alloc (.cells #[.int .i64 k, .int .i64 x, .int .i64 n, .int .i64 s, .int .i64 u] 30)) = W1 := ⟨_, rfl⟩
        rw [hW1] at HP ⊢
        clear hW1
        with_reducible refine (CP.out _ HP).mono ?_
        rintro e w1 ⟨rfl, hb⟩
        have HP := Lib.hid (HP.out.on hb)
        clear hb
        obtain ⟨b0, b1, b2, p0, p1, p2, p3, p4, -⟩ := bpS HP.out
        go_wp2_with fail
        with_reducible refine (CL.out _ HP).mono ?_
        rintro e w1 ⟨rfl, hb⟩
        have HP := Lib.hid (HP.out.on hb)
        clear b0 b1 b2 p0 p1 p2 p3 p4 hb
        obtain ⟨b0, b1, b2, p0, p1, p2, p3, p4, -⟩ := bpS HP.out
        go_wp2_with (go_at_call 82; refine (in_any _ _ _ _).mono ?_; rintro e w' ⟨rfl, rfl⟩)
        with_reducible refine (CD.out _ HP).mono ?_
        rintro e w1 ⟨rfl, hb⟩
        have HP := Lib.hid (HP.out.on hb)
        clear b0 b1 b2 p0 p1 p2 p3 p4 hb
        obtain ⟨b0, b1, b2, p0, p1, p2, p3, p4, -⟩ := bpS HP.out
        go_wp2_with fail
        go_ret
        exact ⟨rfl, HP.out.low⟩
      · have HZ : Hid (rvE r f xs k x n s u j = 0) := Lib.hid (rvE_iff.2 ⟨hp, hj, hz⟩)
        rw [HZ.out]
        rw [hp] at CP
        obtain ⟨E, hE⟩ : ∃ y_, durN f xs k x n = y_ := ⟨_, rfl⟩
        rw [hE] at CL q1 hi
        obtain ⟨Z, hZ⟩ : ∃ y_, dvN r f xs x j = y_ := ⟨_, rfl⟩
        rw [hZ] at CD hz
        have hz2 : (Z == 0) = false := by simp [hz]
        clear hp hj hd ht hE hZ HZ
        go_enter Tryz.func61, Tryz.ntmps61
        go_wp2_with fail
        obtain ⟨W1, hW1⟩ : ∃ W1, ((w.alloc (.cells #[.int .i64 f, .slice a l c, .int .i64 r] 28)).alloc (.cells #[.int .i64 k, .int .i64 x, .int .i64 n, .int .i64 s, .int .i64 u] 30)) = W1 := ⟨_, rfl⟩
        rw [hW1] at HP ⊢
        clear hW1
        with_reducible refine (CP.out _ HP).mono ?_
        rintro e w1 ⟨rfl, hb⟩
        have HP := Lib.hid (HP.out.on hb)
        clear hb
        obtain ⟨b0, b1, b2, p0, p1, p2, p3, p4, -⟩ := bpS HP.out
        go_wp2_with fail
        with_reducible refine (CL.out _ HP).mono ?_
        rintro e w1 ⟨rfl, hb⟩
        have HP := Lib.hid (HP.out.on hb)
        clear b0 b1 b2 p0 p1 p2 p3 p4 hb
        obtain ⟨b0, b1, b2, p0, p1, p2, p3, p4, -⟩ := bpS HP.out
        go_wp2_with (go_at_call 82; refine (in_any _ _ _ _).mono ?_; rintro e w' ⟨rfl, rfl⟩)
        with_reducible refine (CD.out _ HP).mono ?_
        rintro e w1 ⟨rfl, hb⟩
        have HP := Lib.hid (HP.out.on hb)
        clear b0 b1 b2 p0 p1 p2 p3 p4 hb
        obtain ⟨b0, b1, b2, p0, p1, p2, p3, p4, -⟩ := bpS HP.out
        go_wp2_with fail
        go_ret
        exact ⟨rfl, HP.out.low⟩
    · have hi : inB j 0 (durN f xs k x n - 1) = false := by simpa using hi
      rw [rvE_out hp hi]
      rw [hp] at CP
      obtain ⟨E, hE⟩ : ∃ y_, durN f xs k x n = y_ := ⟨_, rfl⟩
      rw [hE] at CL q1 hi
      clear hp hd hE
      go_enter Tryz.func61, Tryz.ntmps61
      go_wp2_with fail
      obtain ⟨W1, hW1⟩ : ∃ W1, ((w.alloc (.cells #[.int .i64 f, .slice a l c, .int .i64 r] 28)).alloc (.cells #[.int .i64 k, .int .i64 x, .int .i64 n, .int .i64 s, .int .i64 u] 30)) = W1 := ⟨_, rfl⟩
      rw [hW1] at HP ⊢
      clear hW1
      with_reducible refine (CP.out _ HP).mono ?_
      rintro e w1 ⟨rfl, hb⟩
      have HP := Lib.hid (HP.out.on hb)
      clear hb
      obtain ⟨b0, b1, b2, p0, p1, p2, p3, p4, -⟩ := bpS HP.out
      go_wp2_with fail
      with_reducible refine (CL.out _ HP).mono ?_
      rintro e w1 ⟨rfl, hb⟩
      have HP := Lib.hid (HP.out.on hb)
      clear b0 b1 b2 p0 p1 p2 p3 p4 hb
      obtain ⟨b0, b1, b2, p0, p1, p2, p3, p4, -⟩ := bpS HP.out
      go_wp2_with (go_at_call 82; refine (in_any _ _ _ _).mono ?_; rintro e w' ⟨rfl, rfl⟩)
      go_ret
      exact ⟨rfl, HP.out.low⟩
  · have hp : poB r f xs k x n s u = false := by simpa using hp
    rw [rvE_no hp]
    rw [hp] at CP
    clear hp
    go_enter Tryz.func61, Tryz.ntmps61
    go_wp2_with fail
    obtain ⟨W1, hW1⟩ : ∃ W1, ((w.alloc (.cells #[.int .i64 f, .slice a l c, .int .i64 r] 28)).alloc (.cells #[.int .i64 k, .int .i64 x, .int .i64 n, .int .i64 s, .int .i64 u] 30)) = W1 := ⟨_, rfl⟩
    rw [hW1] at HP ⊢
    clear hW1
    with_reducible refine (CP.out _ HP).mono ?_
    rintro e w1 ⟨rfl, hb⟩
    have HP := Lib.hid (HP.out.on hb)
    clear hb
    obtain ⟨b0, b1, b2, p0, p1, p2, p3, p4, -⟩ := bpS HP.out
    go_wp2_with fail
    go_ret
    exact ⟨rfl, HP.out.low⟩

theorem rleft_any (k x n s u j : Int) (w : World) (h : -1000000 ≤ n - j ∧ n - j ≤ 1000000) :
    Calls Tryz.prog 62 #[.agg #[.int .i64 k, .int .i64 x, .int .i64 n, .int .i64 s, .int .i64 u], .int .i64 j] w fun e w' => e = .returned (.int .i64 (lfN k n j)) ∧ Below w.heap.size w w' := by
  have q1 : IntKind.i64.wrap (n - j) = n - j := IntWalk.i64_in _ (by omega)
  unfold lfN
  by_cases hk : k = 0
  · rw [if_pos hk]
    subst hk
    go_enter Tryz.func62, Tryz.ntmps62
    go_wp2_with fail
    go_ret
    exact ⟨rfl, box_b _ _⟩
  · rw [if_neg hk]
    have hk2 : (k == 0) = false := by simp [hk]
    go_enter Tryz.func62, Tryz.ntmps62
    go_wp2_with fail
    go_ret
    exact ⟨rfl, box_b _ _⟩

set_option maxHeartbeats 4000000 in
theorem rparts_any (r f : Int) (xs : List Int) (a : Option Addr) (l c : Nat) (k x n s u j : Int) (w : World) (h : Ints w a l xs) (hp : poB r f xs k x n s u = true) (hj : 0 ≤ j ∧ j ≤ durN f xs k x n - 1) :
    Calls Tryz.prog 37 #[.agg #[.int .i64 f, .slice a l c, .int .i64 r], .agg #[.int .i64 k, .int .i64 x, .int .i64 n, .int .i64 s, .int .i64 u], .int .i64 j] w fun e w' => e = .returned (.tuple #[.int .i64 (ryT r f xs k x n j), .int .i64 (ryB r f xs k x n j), .int .i64 (dvN r f xs x j)]) ∧ Below w.heap.size w w' := by
  obtain ⟨ht, ⟨r0, r1⟩, ⟨hk, hkl⟩, ⟨l0, l1⟩, ⟨y0, y1, y2⟩, ⟨x0, x1⟩, ⟨n0, n1⟩, f0, f1⟩ := rv_in hp hj
  have hj120 := dur_pos hp
  have H := Lib.hid h
  clear h
  have HP := Lib.hid (BP.new w f (.slice a l c) r k x n s u 28 30)
  have CF : Hid (∀ W, Hid (BP w f (.slice a l c) r k x n s u W) → Calls Tryz.prog 62 #[.agg #[.int .i64 k, .int .i64 x, .int .i64 n, .int .i64 s, .int .i64 u], .int .i64 j] W fun e w' => e = .returned (.int .i64 (lfN k n j)) ∧ Below W.heap.size W w') :=
    Lib.hid (fun W hW => rleft_any k x n s u j W (by omega))
  have CT : Hid (∀ W, Hid (BP w f (.slice a l c) r k x n s u W) → Calls Tryz.prog 46 #[.agg #[.int .i64 f, .slice a l c], .int .i64 r, .int .i64 k, .int .i64 (x + j), .int .i64 (lfN k n j)] W fun e w' => e = .returned (.int .i64 (ryT r f xs k x n j)) ∧ Below W.heap.size W w') :=
    Lib.hid (fun W hW => stop_any r f xs a l c k (x + j) (lfN k n j) W (H.out.on hW.out.low) ht r0 r1 y0 l0 l1 y1)
  have CB : Hid (∀ W, Hid (BP w f (.slice a l c) r k x n s u W) → Calls Tryz.prog 63 #[.agg #[.int .i64 f, .slice a l c], .int .i64 r, .int .i64 k, .int .i64 (x + j), .int .i64 (lfN k n j)] W fun e w' => e = .returned (.int .i64 (ryB r f xs k x n j)) ∧ Below W.heap.size W w') :=
    Lib.hid (fun W hW => sbase_any r f xs a l c k (x + j) (lfN k n j) W (H.out.on hW.out.low) ht r0 r1 y0 l0 l1 y1)
  have CD : Hid (∀ W, Hid (BP w f (.slice a l c) r k x n s u W) → Calls Tryz.prog 43 #[.agg #[.int .i64 f, .slice a l c], .int .i64 r, .int .i64 (x + j)] W fun e w' => e = .returned (.int .i64 (dvN r f xs x j)) ∧ Below W.heap.size W w') :=
    Lib.hid (fun W hW => sD_any r f xs a l c (x + j) W (H.out.on hW.out.low) ht r0 r1 y0 (by omega))
  have q2 : IntKind.i64.wrap (x + j) = x + j := IntWalk.i64_in _ (by omega)
  obtain ⟨L, hL⟩ : ∃ y_, lfN k n j = y_ := ⟨_, rfl⟩
  obtain ⟨T, hT⟩ : ∃ y_, ryT r f xs k x n j = y_ := ⟨_, rfl⟩
  obtain ⟨B, hB⟩ : ∃ y_, ryB r f xs k x n j = y_ := ⟨_, rfl⟩
  obtain ⟨D, hD⟩ : ∃ y_, dvN r f xs x j = y_ := ⟨_, rfl⟩
  rw [hL] at CF CT CB
  rw [hT] at CT
  rw [hB] at CB
  rw [hD] at CD
  rw [hT, hB, hD]
  clear hL hT hB hD ht hk hkl l0 l1 hp hj
  go_enter Tryz.func37, Tryz.ntmps37
  go_wp2_with fail
  obtain ⟨W1, hW1⟩ : ∃ W1, ((w.alloc (.cells #[.int .i64 f, .slice a l c, .int .i64 r] 28)).alloc (.cells #[.int .i64 k, .int .i64 x, .int .i64 n, .int .i64 s, .int .i64 u] 30)) = W1 := ⟨_, rfl⟩
  rw [hW1] at HP ⊢
  clear hW1
  with_reducible refine (CF.out _ HP).mono ?_
  rintro e w1 ⟨rfl, hb⟩
  have HP := Lib.hid (HP.out.on hb)
  clear hb
  obtain ⟨b0, b1, b2, p0, p1, p2, p3, p4, -⟩ := bpS HP.out
  go_wp2_with fail
  go_region_held3 (fun W9 => W9.cell? ⟨w.heap.size, 0, none⟩ = some (.int .i64 f) ∧ W9.cell? ⟨w.heap.size, 1, none⟩ = some (.slice a l c) ∧ W9.cell? ⟨w.heap.size, 2, none⟩ = some (.int .i64 r) ∧ W9.cell? ⟨w.heap.size + 1, 0, none⟩ = some (.int .i64 k) ∧ W9.cell? ⟨w.heap.size + 1, 1, none⟩ = some (.int .i64 x) ∧ W9.cell? ⟨w.heap.size + 1, 2, none⟩ = some (.int .i64 n) ∧ W9.cell? ⟨w.heap.size + 1, 3, none⟩ = some (.int .i64 s) ∧ W9.cell? ⟨w.heap.size + 1, 4, none⟩ = some (.int .i64 u) ∧ Hid (BP w f (.slice a l c) r k x n s u W9))
      (first
        | (go_split_ands; exact ⟨by with_reducible assumption, by with_reducible assumption, by with_reducible assumption, by with_reducible assumption, by with_reducible assumption, by with_reducible assumption, by with_reducible assumption, by with_reducible assumption, by with_reducible assumption⟩)
        | (go_split_ands; with_reducible exact bpS HP.out)
        | (go_split_ands; with_reducible exact bpS (BP.drew HP.out))
        | (go_split_ands; with_reducible exact bpS (BP.on (Hid.out (by with_reducible assumption)) hb))
        | fail)
      (first
        | (go_split_ands; go_at_call 46; ((with_reducible refine (CT.out _ (by with_reducible assumption)).mono ?_); rintro e w' ⟨rfl, hb⟩))
        | (go_split_ands; go_at_call 63; ((with_reducible refine (CB.out _ (by with_reducible assumption)).mono ?_); rintro e w' ⟨rfl, hb⟩))
        | (go_split_ands; go_at_call 43; ((with_reducible refine (CD.out _ (by with_reducible assumption)).mono ?_); rintro e w' ⟨rfl, hb⟩))
        | fail)
  all_goals
    go_split_ands
    go_wp2_with fail
    go_ret3
    exact ⟨rfl, bpLow f (.slice a l c) r k x n s u (by with_reducible assumption)⟩

set_option maxHeartbeats 4000000 in
theorem rfwd_any (r f : Int) (xs : List Int) (a : Option Addr) (l c : Nat) (k x n s u j : Int) (w : World) (h : Ints w a l xs) (hp : poB r f xs k x n s u = true) (hj : 0 ≤ j ∧ j ≤ durN f xs k x n - 1) (hd : dvN r f xs x j ≠ 0) :
    Calls Tryz.prog 64 #[.agg #[.int .i64 f, .slice a l c, .int .i64 r], .agg #[.int .i64 k, .int .i64 x, .int .i64 n, .int .i64 s, .int .i64 u], .int .i64 j] w fun e w' => e = .returned (.tuple #[.int .i64 (fwN r f xs k x n s j / dvN r f xs x j), .int .i64 (fwN r f xs k x n s j % dvN r f xs x j)]) ∧ Below w.heap.size w w' := by
  have H := Lib.hid h
  clear h
  have HP := Lib.hid (BP.new w f (.slice a l c) r k x n s u 28 30)
  have CA : Hid (∀ W, Hid (BP w f (.slice a l c) r k x n s u W) → Calls Tryz.prog 37 #[.agg #[.int .i64 f, .slice a l c, .int .i64 r], .agg #[.int .i64 k, .int .i64 x, .int .i64 n, .int .i64 s, .int .i64 u], .int .i64 j] W fun e w' => e = .returned (.tuple #[.int .i64 (ryT r f xs k x n j), .int .i64 (ryB r f xs k x n j), .int .i64 (dvN r f xs x j)]) ∧ Below W.heap.size W w') :=
    Lib.hid (fun W hW => rparts_any r f xs a l c k x n s u j W (H.out.on hW.out.low) hp hj)
  have CN : Hid (∀ W, Hid (BP w f (.slice a l c) r k x n s u W) → Calls Tryz.prog 85 #[.agg #[.int .i64 f, .slice a l c, .int .i64 r], .agg #[.int .i64 k, .int .i64 x, .int .i64 n, .int .i64 s, .int .i64 u]] W fun e w' => e = .returned (.int .i64 (netN r f xs k x n s)) ∧ Below W.heap.size W w') :=
    Lib.hid (fun W hW => snet_any r f xs a l c k x n s u W (H.out.on hW.out.low) hp)
  obtain ⟨⟨m1, m2⟩, -, -⟩ := rv_bds hp hj hd
  obtain ⟨t, b, d, t0, b0, p, e1, e2, e3, e4, e5, e6, ⟨t1, t2⟩, ⟨d0, d1⟩, ⟨v0, v1⟩, ⟨t3, t4⟩, ⟨v2, v3⟩, ⟨p0, p1⟩, g0, g1, s0, s1⟩ := rv_nums hp hj hd
  unfold fwN at m1 m2 ⊢
  rw [e1, e2, e3, e6] at m1 m2 ⊢
  rw [e1, e2, e3] at CA
  rw [e6] at CN
  have CM := Lib.hid (fun W => sminus_any s t p b d 20000000000 W (by omega) (by omega) p0 (by omega) t1 (by omega) (by omega) (by omega) d0 d1 (by omega) (by omega) m1 m2)
  obtain ⟨X, hX⟩ : ∃ y_, (s * t - p * b) / d = y_ := ⟨_, rfl⟩
  obtain ⟨Y, hY⟩ : ∃ y_, (s * t - p * b) % d = y_ := ⟨_, rfl⟩
  rw [hX, hY] at CM
  rw [hX, hY]
  clear hX hY e1 e2 e3 e4 e5 e6 m1 m2 t1 t2 d0 d1 v0 v1 t3 t4 v2 v3 p0 p1 g0 g1 s0 s1 hp hj hd
  go_enter Tryz.func64, Tryz.ntmps64
  go_wp2_with fail
  obtain ⟨W1, hW1⟩ : ∃ W1, ((w.alloc (.cells #[.int .i64 f, .slice a l c, .int .i64 r] 28)).alloc (.cells #[.int .i64 k, .int .i64 x, .int .i64 n, .int .i64 s, .int .i64 u] 30)) = W1 := ⟨_, rfl⟩
  rw [hW1] at HP ⊢
  clear hW1
  with_reducible refine (CA.out _ HP).mono ?_
  rintro e w1 ⟨rfl, hb⟩
  have HP := Lib.hid (HP.out.on hb)
  clear hb
  obtain ⟨b0, b1, b2, p0, p1, p2, p3, p4, -⟩ := bpS HP.out
  go_wp2_with fail
  go_region_held3 (fun W9 => W9.cell? ⟨w.heap.size, 0, none⟩ = some (.int .i64 f) ∧ W9.cell? ⟨w.heap.size, 1, none⟩ = some (.slice a l c) ∧ W9.cell? ⟨w.heap.size, 2, none⟩ = some (.int .i64 r) ∧ W9.cell? ⟨w.heap.size + 1, 0, none⟩ = some (.int .i64 k) ∧ W9.cell? ⟨w.heap.size + 1, 1, none⟩ = some (.int .i64 x) ∧ W9.cell? ⟨w.heap.size + 1, 2, none⟩ = some (.int .i64 n) ∧ W9.cell? ⟨w.heap.size + 1, 3, none⟩ = some (.int .i64 s) ∧ W9.cell? ⟨w.heap.size + 1, 4, none⟩ = some (.int .i64 u) ∧ Hid (BP w f (.slice a l c) r k x n s u W9))
      (first
        | (go_split_ands; exact ⟨by with_reducible assumption, by with_reducible assumption, by with_reducible assumption, by with_reducible assumption, by with_reducible assumption, by with_reducible assumption, by with_reducible assumption, by with_reducible assumption, by with_reducible assumption⟩)
        | (go_split_ands; with_reducible exact bpS HP.out)
        | (go_split_ands; with_reducible exact bpS (BP.drew HP.out))
        | (go_split_ands; with_reducible exact bpS (BP.on (Hid.out (by with_reducible assumption)) hb))
        | fail)
      (first
        | (go_split_ands; go_at_call 85; ((with_reducible refine (CN.out _ (by with_reducible assumption)).mono ?_); rintro e w' ⟨rfl, hb⟩))
        | (go_split_ands; go_at_call 103; ((with_reducible refine (CM.out _).mono ?_); rintro e w' ⟨rfl, rfl⟩))
        | fail)
  all_goals
    go_split_ands
    go_wp2_with fail
    go_ret2
    exact ⟨rfl, bpLow f (.slice a l c) r k x n s u (by with_reducible assumption)⟩

set_option maxHeartbeats 2000000 in
theorem rat_any (r f : Int) (xs : List Int) (a : Option Addr) (l c : Nat) (k x n s u j : Int) (w : World) (h : Ints w a l xs) (hp : poB r f xs k x n s u = true) (hj : 0 ≤ j ∧ j ≤ durN f xs k x n - 1) (hd : dvN r f xs x j ≠ 0) :
    Calls Tryz.prog 40 #[.agg #[.int .i64 f, .slice a l c, .int .i64 r], .agg #[.int .i64 k, .int .i64 x, .int .i64 n, .int .i64 s, .int .i64 u], .int .i64 j] w fun e w' => e = .returned (.int .i64 (ktN r f xs k x n s j)) ∧ Below w.heap.size w w' := by
  have H := Lib.hid h
  clear h
  have HP := Lib.hid (BP.new w f (.slice a l c) r k x n s u 28 30)
  have CF : Hid (∀ W, Hid (BP w f (.slice a l c) r k x n s u W) → Calls Tryz.prog 64 #[.agg #[.int .i64 f, .slice a l c, .int .i64 r], .agg #[.int .i64 k, .int .i64 x, .int .i64 n, .int .i64 s, .int .i64 u], .int .i64 j] W fun e w' => e = .returned (.tuple #[.int .i64 (fwN r f xs k x n s j / dvN r f xs x j), .int .i64 (fwN r f xs k x n s j % dvN r f xs x j)]) ∧ Below W.heap.size W w') :=
    Lib.hid (fun W hW => rfwd_any r f xs a l c k x n s u j W (H.out.on hW.out.low) hp hj hd)
  obtain ⟨q, m, e1, e2, q0, q1, m0, m1, m2, e3, -⟩ := kt_bd hp hj hd
  rw [e1, e2] at CF
  rw [e3]
  clear e1 e2 e3 m1 m2 hp hj hd
  have q2 : IntKind.i64.wrap (q + min 1 m) = q + min 1 m := IntWalk.i64_in _ (by omega)
  go_enter Tryz.func40, Tryz.ntmps40
  go_wp2_with fail
  obtain ⟨W1, hW1⟩ : ∃ W1, ((w.alloc (.cells #[.int .i64 f, .slice a l c, .int .i64 r] 28)).alloc (.cells #[.int .i64 k, .int .i64 x, .int .i64 n, .int .i64 s, .int .i64 u] 30)) = W1 := ⟨_, rfl⟩
  rw [hW1] at HP ⊢
  clear hW1
  with_reducible refine (CF.out _ HP).mono ?_
  rintro e w1 ⟨rfl, hb⟩
  have HP := Lib.hid (HP.out.on hb)
  clear hb
  obtain ⟨b0, b1, b2, p0, p1, p2, p3, p4, -⟩ := bpS HP.out
  go_wp2_with fail
  all_goals
    go_ret
    exact ⟨ret_int (by omega), HP.out.low⟩

/-- the first year is the whole assurance -/
theorem ry_zero {r f : Int} {xs : List Int} {k x n s u : Int} (hp : poB r f xs k x n s u = true) : ryT r f xs k x n 0 = asT r f xs k x n ∧ ryB r f xs k x n 0 = asB r f xs k x n := by
  have hz := (poB_iff.1 hp).1
  unfold asE at hz
  have hkn := (as_in hz).2.1.2
  have e : lfN k n 0 = n := by
    unfold lfN
    by_cases h : k = 0
    · rw [if_pos h, hkn.1 h]
    · rw [if_neg h, Int.sub_zero]
  unfold ryT ryB
  rw [e, Int.add_zero]
  exact ⟨rfl, rfl⟩

end Go.Proofs.YtdlfofdibooidaaGreat

/- Reserves: what a death costs: the model's cases. | Reserves: the model's list of reserves, and risks. (Written by wip/gen/rvj.py.) -/
namespace Go.Proofs.YtdlfofdibooidaaGreat
open Go.ChangeShapes Go.WideShapes Go.ChangeAt Go.RowKit
set_option linter.unusedVariables false
set_option maxRecDepth 100000

theorem rk_lastS {r f : Int} {xs : List Int} {k x n s u : Int} {j : Int} (he : rvE r f xs k x n s u j = 0) (hj : j = durN f xs k x n - 1) : rkE r f xs k x n s u j = 0 ∧ rkV r f xs k x n s u j = (if k = 3 ∨ k = 2 then 0 else s) := by
  have e : rkE r f xs k x n s u j = 0 := by
    unfold rkE
    rw [if_pos he, if_neg (by omega)]
  refine ⟨e, ?_⟩
  unfold rkV rkN
  rw [if_pos e, if_neg (c := j < _) (by omega), Int.sub_zero]
  by_cases h3 : k = 3
  · simp [h3]
  · by_cases h2 : k = 2
    · simp [h2, hj]
    · simp [h2, h3]

theorem rk_moreS {r f : Int} {xs : List Int} {k x n s u : Int} {j : Int} (he : rvE r f xs k x n s u j = 0) (hj : j < durN f xs k x n - 1) :
    (dvN r f xs x (j + 1) = 0 → rkE r f xs k x n s u j = 5 ∧ rkV r f xs k x n s u j = 0) ∧
    (dvN r f xs x (j + 1) ≠ 0 → rkE r f xs k x n s u j = 0 ∧ rkV r f xs k x n s u j = (if k = 3 then 0 else s) - ktN r f xs k x n s (j + 1)) := by
  obtain ⟨hp, hj0, hd⟩ := rvE_iff.1 he
  have hi : inB (j + 1) 0 (durN f xs k x n - 1) = true := (inB_iff _ _ _).2 ⟨by omega, by omega⟩
  constructor
  · intro hz
    have e : rkE r f xs k x n s u j = 5 := by
      unfold rkE
      rw [if_pos he, if_pos hj]
      exact rvE_zero hp hi hz
    exact ⟨e, by unfold rkV; rw [e]; rfl⟩
  · intro hz
    have e : rkE r f xs k x n s u j = 0 := by
      unfold rkE
      rw [if_pos he, if_pos hj]
      exact rvE_iff.2 ⟨hp, (inB_iff _ _ _).1 hi, hz⟩
    refine ⟨e, ?_⟩
    unfold rkV rkN
    rw [if_pos e, if_pos hj]
    by_cases h3 : k = 3
    · simp [h3]
    · rw [if_neg h3, if_neg (c := k = 3 ∨ _) (by omega)]

theorem dv_natS (r : Int) {f : Int} (xs : List Int) {x : Int} (h : f ≤ x) (j : Nat) : dvN r f xs x j = cD r xs ((x - f).toNat + j) := by
  unfold dvN
  rw [show (x + (j : Int) - f).toNat = (x - f).toNat + j by omega]

theorem BP.onB {w : World} {f : Int} {v : Value} {r k x n s u : Int} {W W' : World} {base : Nat} (h : BP w f v r k x n s u W) (hb : Below base W W') (hs : w.heap.size + 2 ≤ base) : BP w f v r k x n s u W' := by
  have e : ∀ (i j : Nat) (y : Value), i < base → W.cell? ⟨i, j, none⟩ = some y → W'.cell? ⟨i, j, none⟩ = some y := fun i j y hi hy => (World.cell?_of_block (w := W) (a := ⟨i, j, none⟩) (hb.block i hi)).trans hy
  exact ⟨e _ _ _ (by omega) h.b0, e _ _ _ (by omega) h.b1, e _ _ _ (by omega) h.b2, e _ _ _ (by omega) h.p0, e _ _ _ (by omega) h.p1, e _ _ _ (by omega) h.p2, e _ _ _ (by omega) h.p3, e _ _ _ (by omega) h.p4, h.low.trans (hb.mono (by omega)), Nat.le_trans h.sz hb.size⟩

theorem send_some (f : Int) (a : Option Addr) (l c : Nat) (w : World) (hl : l ≤ 9223372036854775807) :
    Calls Tryz.prog 73 #[.agg #[.int .i64 f, .slice a l c]] w fun e w' => (∃ Z : Int, e = .returned (.int .i64 Z)) ∧ Below w.heap.size w w' := by
  have q1 : IntKind.i64.wrap (l : Int) = l := IntWalk.i64_in _ (by omega)
  go_enter Tryz.func73, Tryz.ntmps73
  go_wp2_with fail
  go_ret
  exact ⟨⟨_, rfl⟩, box_b _ _⟩

set_option maxHeartbeats 1000000 in
theorem sdur_some (r f : Int) (xs : List Int) (a : Option Addr) (l c : Nat) (k x n s u : Int) (w : World) (h : Ints w a l xs) :
    Calls Tryz.prog 44 #[.agg #[.int .i64 f, .slice a l c, .int .i64 r], .agg #[.int .i64 k, .int .i64 x, .int .i64 n, .int .i64 s, .int .i64 u]] w fun e w' => (∃ Z : Int, e = .returned (.int .i64 Z)) ∧ Below w.heap.size w w' := by
  have hl : l ≤ 9223372036854775807 := by have := h.max; omega
  have HP := Lib.hid (BP.new w f (.slice a l c) r k x n s u 28 30)
  have CE := Lib.hid (fun W => send_some f a l c W hl)
  clear h hl
  by_cases hk : k = 0
  · subst hk
    go_enter Tryz.func44, Tryz.ntmps44
    go_wp2_with fail
    obtain ⟨W1, hW1⟩ : ∃ W1, ((w.alloc (.cells #[.int .i64 f, .slice a l c, .int .i64 r] 28)).alloc (.cells #[.int .i64 0, .int .i64 x, .int .i64 n, .int .i64 s, .int .i64 u] 30)) = W1 := ⟨_, rfl⟩
    rw [hW1] at HP ⊢
    clear hW1
    obtain ⟨b0, b1, b2, p0, p1, p2, p3, p4, -⟩ := bpS HP.out
    go_wp2_with fail
    go_region_held3 (fun W9 => W9.cell? ⟨w.heap.size, 0, none⟩ = some (.int .i64 f) ∧ W9.cell? ⟨w.heap.size, 1, none⟩ = some (.slice a l c) ∧ W9.cell? ⟨w.heap.size, 2, none⟩ = some (.int .i64 r) ∧ W9.cell? ⟨w.heap.size + 1, 0, none⟩ = some (.int .i64 0) ∧ W9.cell? ⟨w.heap.size + 1, 1, none⟩ = some (.int .i64 x) ∧ W9.cell? ⟨w.heap.size + 1, 2, none⟩ = some (.int .i64 n) ∧ W9.cell? ⟨w.heap.size + 1, 3, none⟩ = some (.int .i64 s) ∧ W9.cell? ⟨w.heap.size + 1, 4, none⟩ = some (.int .i64 u) ∧ Hid (BP w f (.slice a l c) r 0 x n s u W9))
    (first
      | (go_split_ands; exact ⟨by with_reducible assumption, by with_reducible assumption, by with_reducible assumption, by with_reducible assumption, by with_reducible assumption, by with_reducible assumption, by with_reducible assumption, by with_reducible assumption, by with_reducible assumption⟩)
      | (go_split_ands; with_reducible exact bpS HP.out)
      | (go_split_ands; with_reducible exact bpS (BP.drew HP.out))
      | (go_split_ands; with_reducible exact bpS (BP.on (Hid.out (by with_reducible assumption)) hb))
      | fail)
        (first
          | (go_split_ands; go_at_call 73; ((with_reducible refine (CE.out _).mono ?_); rintro e w' ⟨⟨Z, rfl⟩, hb⟩))
          | fail)
    all_goals
      go_split_ands
      go_wp2_with fail
      go_ret
      exact ⟨⟨_, rfl⟩, bpLow f (.slice a l c) r 0 x n s u (by with_reducible assumption)⟩
  · have hk2 : (k == 0) = false := by simp [hk]
    clear hk
    go_enter Tryz.func44, Tryz.ntmps44
    go_wp2_with fail
    go_ret
    exact ⟨⟨_, rfl⟩, HP.out.low⟩

end Go.Proofs.YtdlfofdibooidaaGreat

/- Leaving: numbers. -/
namespace Go.Proofs.YtdlfofdibooidaaGreat
open Go.ChangeShapes Go.WideShapes Go.ChangeAt Go.RowKit
set_option linter.unusedVariables false
set_option maxRecDepth 100000

/-- the code of leaving -/
def lvE (r f : Int) (xs : List Int) (k x n s u j : Int) : Int :=
  if rvE r f xs k x n s u j = 0 then (if j < 2 then 4 else 0) else rvE r f xs k x n s u j

/-- the surrender value of a number of the list -/
def lsvK (q : Int) : Int := q * 900 / 1000

def lsvN (r f : Int) (xs : List Int) (k x n s j : Int) : Int := lsvK (ktN r f xs k x n s j)

/-- the paid-up sum -/
def puN (r f : Int) (xs : List Int) (k x n s j : Int) : Int := if ryT r f xs k x n j = 0 then 0 else lsvN r f xs k x n s j * dvN r f xs x j / ryT r f xs k x n j

/-- the greatest number of years, at most m, whose price is at most V -/
def kyI (F : Nat → Int) (V : Int) : Nat → Nat
  | 0 => 0
  | m + 1 => if F (m + 1) ≤ V then m + 1 else kyI F V m

def kyF (r f : Int) (xs : List Int) (x s j : Int) (m : Nat) : Int := upV s (asT r f xs 1 (x + j) m) (dvN r f xs x j)

def kyN (r f : Int) (xs : List Int) (k x n s j : Int) : Int := (kyI (kyF r f xs x s j) (lsvN r f xs k x n s j) (durN f xs k x n - j).toNat : Nat)

/-- a value that is told only if there is no error -/
def lvV (E y : Int) : Int := if E = 0 then y else 0

theorem lvE_iff {r f : Int} {xs : List Int} {k x n s u j : Int} : lvE r f xs k x n s u j = 0 ↔ rvE r f xs k x n s u j = 0 ∧ 2 ≤ j := by
  unfold lvE
  split
  · split
    · constructor
      · intro h; cases h
      · rintro ⟨-, h⟩; omega
    · constructor
      · intro _; exact ⟨by assumption, by omega⟩
      · intro _; rfl
  · simp_all

theorem lvE_low {r f : Int} {xs : List Int} {k x n s u j : Int} (h : rvE r f xs k x n s u j = 0) (hj : j < 2) : lvE r f xs k x n s u j = 4 := by
  unfold lvE; rw [if_pos h, if_pos hj]

theorem lvE_err {r f : Int} {xs : List Int} {k x n s u j : Int} (h : rvE r f xs k x n s u j ≠ 0) : lvE r f xs k x n s u j = rvE r f xs k x n s u j := by
  unfold lvE; rw [if_neg h]

theorem lsvK_bd (q : Int) (h : 0 ≤ q) : 0 ≤ lsvK q ∧ lsvK q ≤ q ∧ 1000 * lsvK q ≤ 900 * q := by
  unfold lsvK; omega

/-- the numbers of one who may leave -/
theorem lv_nums {r f : Int} {xs : List Int} {k x n s u j : Int} (hp : poB r f xs k x n s u = true) (hj : 0 ≤ j ∧ j ≤ durN f xs k x n - 1) (hd : dvN r f xs x j ≠ 0) :
    ∃ q v : Int, ktN r f xs k x n s j = q ∧ lsvN r f xs k x n s j = v ∧ v = q * 900 / 1000 ∧ 0 ≤ q ∧ q ≤ 20000000001 ∧ 0 ≤ v ∧ v ≤ q ∧ v ≤ 20000000001 := by
  obtain ⟨-, -, -, -, -, -, -, -, -, -, h0, h1⟩ := kt_bd hp hj hd
  obtain ⟨v0, v1, -⟩ := lsvK_bd _ h0
  exact ⟨_, _, rfl, rfl, rfl, h0, h1, v0, v1, Int.le_trans v1 h1⟩

/-- a paid-up sum is never more than the sum, and it is paid for -/
theorem pu_bd {r f : Int} {xs : List Int} {k x n s u j : Int} (hp : poB r f xs k x n s u = true) (hj : 0 ≤ j ∧ j ≤ durN f xs k x n - 1) (hd : dvN r f xs x j ≠ 0) (ht : ryT r f xs k x n j ≠ 0) :
    0 ≤ lsvN r f xs k x n s j * dvN r f xs x j / ryT r f xs k x n j ∧ lsvN r f xs k x n s j * dvN r f xs x j / ryT r f xs k x n j ≤ s := by
  obtain ⟨q, v, e1, e2, e3, q0, q1, v0, v1, v2⟩ := lv_nums hp hj hd
  obtain ⟨Q, m, f1, f2, -, -, m0, m1, -, f3, -⟩ := kt_bd hp hj hd
  obtain ⟨t, b, d, t0, b0, p, g1, g2, g3, g4, g5, g6, ⟨t1, t2⟩, ⟨d0, d1⟩, ⟨b1, b2⟩, ⟨t3, t4⟩, ⟨b3, b4⟩, ⟨p0, p1⟩, h0, h1, s0, s1⟩ := rv_nums hp hj hd
  rw [e1] at f3
  rw [g3] at f1 f2 m1
  rw [e2, g3, g1]
  rw [g1] at ht
  have hfw : fwN r f xs k x n s j = s * t - p * b := by unfold fwN; rw [g1, g2, g6]
  rw [hfw] at f1 f2
  have hp1 : 1 ≤ p := by
    by_cases hp1 : 1 ≤ p
    · exact hp1
    · obtain rfl : p = 0 := by omega
      have := Int.mul_le_mul_of_nonneg_right s0 (show 0 ≤ t0 by omega)
      omega
  have hpb : b ≤ p * b := by
    have := Int.mul_le_mul_of_nonneg_right hp1 (show 0 ≤ b by omega)
    omega
  have hsum := Int.mul_ediv_add_emod (s * t - p * b) d
  rw [f1, f2] at hsum
  have hst : 0 ≤ s * t := Int.mul_nonneg (by omega) t1
  have hqd : q * d ≤ s * t := by
    rw [f3]
    by_cases h0 : q = 0
    · rw [← f3, h0]; omega
    · have e : max 0 (Q + min 1 m) = Q + min 1 m := by omega
      rw [e, Int.add_mul]
      have hc : d * Q = Q * d := Int.mul_comm _ _
      by_cases hm : m = 0
      · subst hm; rw [show min (1 : Int) 0 = 0 by omega]; omega
      · rw [show min 1 m = 1 by omega]; omega
  have hvd : v * d ≤ t * s := by
    have := Int.mul_le_mul_of_nonneg_right v1 (show 0 ≤ d by omega)
    rw [Int.mul_comm t s]
    omega
  have hvd0 : 0 ≤ v * d := Int.mul_nonneg v0 (by omega)
  have htp : 0 < t := by omega
  refine ⟨Int.ediv_nonneg hvd0 t1, ?_⟩
  have := Int.ediv_le_ediv htp hvd
  rwa [Int.mul_ediv_cancel_left _ (by omega)] at this

theorem pu_in {r f : Int} {xs : List Int} {k x n s u j : Int} (hp : poB r f xs k x n s u = true) (hj : 0 ≤ j ∧ j ≤ durN f xs k x n - 1) (hd : dvN r f xs x j ≠ 0) :
    0 ≤ puN r f xs k x n s j ∧ puN r f xs k x n s j ≤ s ∧ puN r f xs k x n s j * ryT r f xs k x n j ≤ lsvN r f xs k x n s j * dvN r f xs x j := by
  obtain ⟨q, v, e1, e2, e3, q0, q1, v0, v1, v2⟩ := lv_nums hp hj hd
  obtain ⟨t, b, d, t0, b0, p, g1, g2, g3, g4, g5, g6, ⟨t1, t2⟩, ⟨d0, d1⟩, ⟨b1, b2⟩, ⟨t3, t4⟩, ⟨b3, b4⟩, ⟨p0, p1⟩, h0, h1, s0, s1⟩ := rv_nums hp hj hd
  unfold puN
  by_cases ht : ryT r f xs k x n j = 0
  · rw [if_pos ht, ht, e2, g3]
    have := Int.mul_nonneg v0 (show 0 ≤ d by omega)
    omega
  · obtain ⟨h2, h3⟩ := pu_bd hp hj hd ht
    rw [if_neg ht]
    refine ⟨h2, h3, ?_⟩
    exact Int.ediv_mul_le _ ht

theorem kyI_le (F : Nat → Int) (V : Int) (m : Nat) : kyI F V m ≤ m := by
  induction m with
  | zero => exact Nat.le_refl _
  | succ m ih => unfold kyI; split <;> omega

theorem kyI_ok (F : Nat → Int) (V : Int) (m : Nat) (h : kyI F V m ≠ 0) : F (kyI F V m) ≤ V := by
  induction m with
  | zero => exact absurd rfl h
  | succ m ih =>
    unfold kyI at h ⊢
    split
    · assumption
    · rename_i hn; rw [if_neg hn] at h; exact ih h

theorem kyI_yes {F : Nat → Int} {V : Int} {m : Nat} (h : F (m + 1) ≤ V) : kyI F V (m + 1) = m + 1 := by
  unfold kyI; rw [if_pos h]

theorem kyI_no {F : Nat → Int} {V : Int} {m : Nat} (h : ¬ F (m + 1) ≤ V) : kyI F V (m + 1) = kyI F V m := by
  show (if F (m + 1) ≤ V then m + 1 else kyI F V m) = kyI F V m
  rw [if_neg h]

/-- the assurance for m years at death -/
theorem ky_as {r f : Int} {xs : List Int} {k x n s u j : Int} (hp : poB r f xs k x n s u = true) (hj : 0 ≤ j ∧ j ≤ durN f xs k x n - 1) (hd : dvN r f xs x j ≠ 0) (m : Nat) (m1 : 1 ≤ m) (m2 : (m : Int) ≤ durN f xs k x n - j) :
    anE r f xs (x + j) (inB s 1 100000000 && fitB 1 m) m = 0 := by
  have hz := (poB_iff.1 hp).1
  unfold asE at hz
  have hB := (as_in hz).1
  have hdp := dur_pos hp
  obtain ⟨-, -, -, -, -, -, hxn, -⟩ := as_in hz
  obtain ⟨ht, hr, hk, hl, ⟨y0, y1, y2⟩, hx, hn, f0, f1⟩ := rv_in hp hj
  refine anE_iff.2 ⟨coE_iff.2 ⟨ht, hr, y0, by omega⟩, ?_, ⟨by omega, by omega⟩, ?_, hd⟩
  · rw [Bool.and_eq_true]
    exact ⟨hB, fitB_iff.2 ⟨⟨by omega, by omega⟩, by omega⟩⟩
  · have hs2 := ht.2.2.1
    unfold durN at m2
    split at m2 <;> omega

/-- the price for m years -/
theorem ky_bd {r f : Int} {xs : List Int} {k x n s u j : Int} (hp : poB r f xs k x n s u = true) (hj : 0 ≤ j ∧ j ≤ durN f xs k x n - 1) (hd : dvN r f xs x j ≠ 0) (m : Nat) (m1 : 1 ≤ m) (m2 : (m : Int) ≤ durN f xs k x n - j) :
    ∃ t d : Int, asT r f xs 1 (x + j) m = t ∧ dvN r f xs x j = d ∧ 0 ≤ t ∧ t ≤ d ∧ 1 ≤ d ∧ d ≤ 1000000000000000 ∧ 1 ≤ s ∧ s ≤ 100000000 ∧ kyF r f xs x s j m = upV s t d ∧ 0 ≤ upV s t d ∧ upV s t d ≤ 100000001 ∧ s * t / d ≤ s := by
  have hz := ky_as hp hj hd m m1 m2
  obtain ⟨t, d, b, e1, e2, e3, t0, t1, d0, d1, -⟩ := as_nums hz
  obtain ⟨s0, s1⟩ := (inB_iff _ _ _).1 (as_in hz).1
  have hq := quot_le s t d (by omega) t1 d0
  obtain ⟨p0, p1⟩ := upV_bd s t d s (by omega) t0 (by omega) hq
  refine ⟨t, d, e1, e2, t0, t1, d0, d1, s0, s1, ?_, p0, by omega, hq⟩
  unfold kyF
  rw [e1, show dvN r f xs x j = d from e2]

theorem gi_lt (F : Nat → Int) (n : Nat) (h : 1 ≤ n) : gmI F n < n := by
  induction n with
  | zero => omega
  | succ n ih =>
    unfold gmI
    by_cases hn : n = 0
    · subst hn
      rw [if_neg (by unfold gmI; omega)]
      unfold gmI
      omega
    · have := ih (by omega)
      split <;> omega

/-- what is best -/
def blG (r f : Int) (xs : List Int) (k x n s u : Int) (i : Nat) : Int := lsvN r f xs k x n s ((i : Int) + 2) - ((i : Int) + 2) * offN (netN r f xs k x n s) u

def blE (r f : Int) (xs : List Int) (k x n s u : Int) : Int := if poB r f xs k x n s u = true then (if durN f xs k x n ≤ 2 then 4 else if npB r xs ((x - f).toNat + 2) (durN f xs k x n - 2).toNat = true then 0 else 5) else 1

def blK (r f : Int) (xs : List Int) (k x n s u : Int) : Int := if blE r f xs k x n s u = 0 then (gmI (blG r f xs k x n s u) (durN f xs k x n - 2).toNat : Nat) + 2 else 0

def blV (r f : Int) (xs : List Int) (k x n s u : Int) : Int := if blE r f xs k x n s u = 0 then blG r f xs k x n s u (gmI (blG r f xs k x n s u) (durN f xs k x n - 2).toNat) else 0

theorem blE_no {r f : Int} {xs : List Int} {k x n s u : Int} (h : poB r f xs k x n s u = false) : blE r f xs k x n s u = 1 := by
  unfold blE; simp [h]

theorem blE_low {r f : Int} {xs : List Int} {k x n s u : Int} (h : poB r f xs k x n s u = true) (hd : durN f xs k x n ≤ 2) : blE r f xs k x n s u = 4 := by
  unfold blE; rw [if_pos h, if_pos hd]

/-- the value of a year -/
theorem bl_bd {r f : Int} {xs : List Int} {k x n s u : Int} (hp : poB r f xs k x n s u = true) (i : Nat) (hi : (i : Int) + 2 < durN f xs k x n) (hd : cD r xs ((x - f).toNat + 2 + i) ≠ 0) :
    -100000000000 ≤ blG r f xs k x n s u i ∧ blG r f xs k x n s u i ≤ 20000000001 := by
  have hdp := dur_pos hp
  obtain ⟨-, -, -, -, -, ⟨hx, -⟩, -⟩ := rv_in (j := 0) hp ⟨by omega, by omega⟩
  have hd2 : dvN r f xs x ((i : Int) + 2) ≠ 0 := by
    unfold dvN
    rw [show (x + ((i : Int) + 2) - f).toNat = (x - f).toNat + 2 + i by omega]
    exact hd
  obtain ⟨q, v, -, e2, -, -, -, v0, -, v2⟩ := lv_nums hp ⟨by omega, by omega⟩ hd2
  obtain ⟨t, d, b, p, -, -, -, e4, -, -, -, -, -, -, p0, p1, -⟩ := po_nums hp
  obtain ⟨h2, ⟨u0, u1⟩, -⟩ := poB_iff.1 hp
  obtain ⟨o1, o2, -⟩ := offN_bd p u p0 p1 u0 u1
  unfold blG
  rw [e2, e4]
  have g1 : ((i : Int) + 2) * offN p u ≤ 120 * 200000002 := Int.le_trans (Int.mul_le_mul_of_nonneg_left (show offN p u ≤ 200000002 by omega) (by omega)) (Int.mul_le_mul_of_nonneg_right (by omega) (by omega))
  have g0 : 0 ≤ ((i : Int) + 2) * offN p u := Int.mul_nonneg (by omega) (by omega)
  omega

/-- the best of the first i years, and its value -/
def bmK (G : Nat → Int) (i : Nat) : Int := if i = 0 then 0 else (gmI G i : Nat) + 2

def bmV (G : Nat → Int) (i : Nat) : Int := if i = 0 then 0 else G (gmI G i)

theorem bm_up (G : Nat → Int) (i : Nat) (h : i = 0 ∨ bmV G i < G i) : bmK G (i + 1) = (i : Int) + 2 ∧ bmV G (i + 1) = G i := by
  have e : gmI G (i + 1) = i := by
    show (if G (gmI G i) < G i then i else gmI G i) = i
    by_cases h0 : i = 0
    · subst h0
      show (if G 0 < G 0 then 0 else 0) = 0
      split <;> rfl
    · rcases h with h | h
      · exact absurd h h0
      · unfold bmV at h
        rw [if_neg h0] at h
        rw [if_pos h]
  unfold bmK bmV
  rw [if_neg (show ¬ i + 1 = 0 by omega), if_neg (show ¬ i + 1 = 0 by omega), e]
  exact ⟨rfl, rfl⟩

theorem bm_same (G : Nat → Int) (i : Nat) (h0 : i ≠ 0) (h : ¬ bmV G i < G i) : bmK G (i + 1) = bmK G i ∧ bmV G (i + 1) = bmV G i := by
  unfold bmV at h
  rw [if_neg h0] at h
  have e : gmI G (i + 1) = gmI G i := by
    show (if G (gmI G i) < G i then i else gmI G i) = gmI G i
    rw [if_neg h]
  unfold bmK bmV
  rw [if_neg (show ¬ i + 1 = 0 by omega), if_neg (show ¬ i + 1 = 0 by omega), if_neg (show ¬ i = 0 from h0), if_neg (show ¬ i = 0 from h0), e]
  exact ⟨rfl, rfl⟩

theorem bl_kv {r f : Int} {xs : List Int} {k x n s u : Int} {m : Nat} (hp : poB r f xs k x n s u = true) (hm : (durN f xs k x n - 2).toNat = m) :
    (blE r f xs k x n s u = 0 → blK r f xs k x n s u = bmK (blG r f xs k x n s u) m ∧ blV r f xs k x n s u = bmV (blG r f xs k x n s u) m) ∧ (blE r f xs k x n s u ≠ 0 → blK r f xs k x n s u = 0 ∧ blV r f xs k x n s u = 0) := by
  constructor
  · intro h
    have h2 : ¬ durN f xs k x n ≤ 2 := by
      intro hd; rw [blE_low hp hd] at h; omega
    unfold blK blV bmK bmV
    rw [if_pos h, if_pos h, hm, if_neg (by omega), if_neg (by omega)]
    exact ⟨rfl, rfl⟩
  · intro h
    unfold blK blV
    rw [if_neg h, if_neg h]
    exact ⟨rfl, rfl⟩

end Go.Proofs.YtdlfofdibooidaaGreat

/- Merged: Rvs. -/
import Derived.Test.YtnclncglmnbelaaGreatRl12

/- Reserves: the model's side. (Written by wip/gen/rvs.py.) | Reserves: the model's three reserves and the denominator. (Written by wip/gen/rvt.py.) -/
namespace Go.Proofs.YtnclncglmnbelaaGreat
open Go.ChangeShapes Go.WideShapes Go.ChangeAt Go.RowKit
set_option linter.unusedVariables false
set_option maxRecDepth 100000

set_option maxHeartbeats 4000000 in
theorem rcode_any (r f : Int) (xs : List Int) (a : Option Addr) (l c : Nat) (k x n s u j : Int) (w : World) (h : Ints w a l xs) :
    Calls Tryz.prog 48 #[.agg #[.int .i64 f, .slice a l c, .int .i64 r], .agg #[.int .i64 k, .int .i64 x, .int .i64 n, .int .i64 s, .int .i64 u], .int .i64 j] w fun e w' => e = .returned (.int .i64 (rvE r f xs k x n s u j)) ∧ Below w.heap.size w w' := by
  have H := Lib.hid h
  clear h
  have HP := Lib.hid (BP.new w f (.slice a l c) r k x n s u 28 30)
  have CP : Hid (∀ W, Hid (BP w f (.slice a l c) r k x n s u W) → Calls Tryz.prog 41 #[.agg #[.int .i64 f, .slice a l c, .int .i64 r], .agg #[.int .i64 k, .int .i64 x, .int .i64 n, .int .i64 s, .int .i64 u]] W fun e w' => e = .returned (.bool (poB r f xs k x n s u)) ∧ Below W.heap.size W w') :=
    Lib.hid (fun W hW => spol_any r f xs a l c k x n s u W (H.out.on hW.out.low))
  by_cases hp : poB r f xs k x n s u = true
  · have CL : Hid (∀ W, Hid (BP w f (.slice a l c) r k x n s u W) → Calls Tryz.prog 42 #[.agg #[.int .i64 f, .slice a l c, .int .i64 r], .agg #[.int .i64 k, .int .i64 x, .int .i64 n, .int .i64 s, .int .i64 u]] W fun e w' => e = .returned (.int .i64 (durN f xs k x n)) ∧ Below W.heap.size W w') :=
      Lib.hid (fun W hW => sdur_any r f xs a l c k x n s u W (H.out.on hW.out.low) hp)
    have hd := dur_pos hp
    have q1 : IntKind.i64.wrap (durN f xs k x n - 1) = durN f xs k x n - 1 := IntWalk.i64_in _ (by omega)
    by_cases hi : inB j 0 (durN f xs k x n - 1) = true
    · have hj := (inB_iff _ _ _).1 hi
      obtain ⟨ht, ⟨r0, r1⟩, ⟨hk, hkl⟩, ⟨l0, l1⟩, ⟨y0, y1, y2⟩, ⟨x0, x1⟩, ⟨n0, n1⟩, f0, f1⟩ := rv_in hp hj
      have CD : Hid (∀ W, Hid (BP w f (.slice a l c) r k x n s u W) → Calls Tryz.prog 43 #[.agg #[.int .i64 f, .slice a l c], .int .i64 r, .int .i64 (x + j)] W fun e w' => e = .returned (.int .i64 (dvN r f xs x j)) ∧ Below W.heap.size W w') :=
        Lib.hid (fun W hW => sD_any r f xs a l c (x + j) W (H.out.on hW.out.low) ht r0 r1 y0 (by omega))
      have q2 : IntKind.i64.wrap (x + j) = x + j := IntWalk.i64_in _ (by omega)
      by_cases hz : dvN r f xs x j = 0
      · rw [rvE_zero hp hi hz]
        rw [hp] at CP
        rw [hz] at CD
        obtain ⟨E, hE⟩ : ∃ y_, durN f xs k x n = y_ := ⟨_, rfl⟩
        rw [hE] at CL q1 hi
        clear hp hz hj hd ht hE
        go_enter Tryz.func48, Tryz.ntmps48
        go_wp2_with fail
        obtain ⟨W1, hW1⟩ : ∃ W1, ((w.alloc (.cells #[.int .i64 f, .slice a l c, .int .i64 r] 28)).alloc (.cells #[.int .i64 k, .int .i64 x, .int .i64 n, .int .i64 s, .int .i64 u] 30)) = W1 := ⟨_, rfl⟩
        rw [hW1] at HP ⊢
        clear hW1
        with_reducible refine (CP.out _ HP).mono ?_
        rintro e w1 ⟨rfl, hb⟩
        have HP := Lib.hid (HP.out.on hb)
        clear hb
        obtain ⟨b0, b1, b2, p0, p1, p2, p3, p4, -⟩ := bpS HP.out
        go_wp2_with fail
        with_reducible refine (CL.out _ HP).mono ?_
        rintro e w1 ⟨rfl, hb⟩
        have HP := Lib.hid (HP.out.on hb)
        clear b0 b1 b2 p0 p1 p2 p3 p4 hb
        obtain ⟨b0, b1, b2, p0, p1, p2, p3, p4, -⟩ := bpS HP.out
        go_wp2_with (go_at_call 72; refine (in_any _ _ _ _).mono ?_; rintro e w' ⟨rfl, rfl⟩)
        with_reducible refine (CD.out _ HP).mono ?_
        rintro e w1 ⟨rfl, hb⟩
        have HP := Lib.hid (HP.out.on hb)
        clear b0 b1 b2 p0 p1 p2 p3 p4 hb
        obtain ⟨b0, b1, b2, p0, p1, p2, p3, p4, -⟩ := bpS HP.out
        go_wp2_with fail
        go_ret
        exact ⟨rfl, HP.out.low⟩
      · have HZ : Hid (rvE r f xs k x n s u j = 0) := Lib.hid (rvE_iff.2 ⟨hp, hj, hz⟩)
        rw [HZ.out]
        rw [hp] at CP
        obtain ⟨E, hE⟩ : ∃ y_, durN f xs k x n = y_ := ⟨_, rfl⟩
        rw [hE] at CL q1 hi
        obtain ⟨Z, hZ⟩ : ∃ y_, dvN r f xs x j = y_ := ⟨_, rfl⟩
        rw [hZ] at CD hz
        have hz2 : (Z == 0) = false := by simp [hz]
        clear hp hj hd ht hE hZ HZ
        go_enter Tryz.func48, Tryz.ntmps48
        go_wp2_with fail
        obtain ⟨W1, hW1⟩ : ∃ W1, ((w.alloc (.cells #[.int .i64 f, .slice a l c, .int .i64 r] 28)).alloc (.cells #[.int .i64 k, .int .i64 x, .int .i64 n, .int .i64 s, .int .i64 u] 30)) = W1 := ⟨_, rfl⟩
        rw [hW1] at HP ⊢
        clear hW1
        with_reducible refine (CP.out _ HP).mono ?_
        rintro e w1 ⟨rfl, hb⟩
        have HP := Lib.hid (HP.out.on hb)
        clear hb
        obtain ⟨b0, b1, b2, p0, p1, p2, p3, p4, -⟩ := bpS HP.out
        go_wp2_with fail
        with_reducible refine (CL.out _ HP).mono ?_
        rintro e w1 ⟨rfl, hb⟩
        have HP := Lib.hid (HP.out.on hb)
        clear b0 b1 b2 p0 p1 p2 p3 p4 hb
        obtain ⟨b0, b1, b2, p0, p1, p2, p3, p4, -⟩ := bpS HP.out
        go_wp2_with (go_at_call 72; refine (in_any _ _ _ _).mono ?_; rintro e w' ⟨rfl, rfl⟩)
        with_reducible refine (CD.out _ HP).mono ?_
        rintro e w1 ⟨rfl, hb⟩
        have HP := Lib.hid (HP.out.on hb)
        clear b0 b1 b2 p0 p1 p2 p3 p4 hb
        obtain ⟨b0, b1, b2, p0, p1, p2, p3, p4, -⟩ := bpS HP.out
        go_wp2_with fail
        go_ret
        exact ⟨rfl, HP.out.low⟩
    · have hi : inB j 0 (durN f xs k x n - 1) = false := by simpa using hi
      rw [rvE_out hp hi]
      rw [hp] at CP
      obtain ⟨E, hE⟩ : ∃ y_, durN f xs k x n = y_ := ⟨_, rfl⟩
      rw [hE] at CL q1 hi
      clear hp hd hE
      go_enter Tryz.func48, Tryz.ntmps48
      go_wp2_with fail
      obtain ⟨W1, hW1⟩ : ∃ W1, ((w.alloc (.cells #[.int .i64 f, .slice a l c, .int .i64 r] 28)).alloc (.cells #[.int .i64 k, .int .i64 x, .int .i64 n, .int .i64 s, .int .i64 u] 30)) = W1 := ⟨_, rfl⟩
      rw [hW1] at HP ⊢
      clear hW1
      with_reducible refine (CP.out _ HP).mono ?_
      rintro e w1 ⟨rfl, hb⟩
      have HP := Lib.hid (HP.out.on hb)
      clear hb
      obtain ⟨b0, b1, b2, p0, p1, p2, p3, p4, -⟩ := bpS HP.out
      go_wp2_with fail
      with_reducible refine (CL.out _ HP).mono ?_
      rintro e w1 ⟨rfl, hb⟩
      have HP := Lib.hid (HP.out.on hb)
      clear b0 b1 b2 p0 p1 p2 p3 p4 hb
      obtain ⟨b0, b1, b2, p0, p1, p2, p3, p4, -⟩ := bpS HP.out
      go_wp2_with (go_at_call 72; refine (in_any _ _ _ _).mono ?_; rintro e w' ⟨rfl, rfl⟩)
      go_ret
      exact ⟨rfl, HP.out.low⟩
  · have hp : poB r f xs k x n s u = false := by simpa using hp
    rw [rvE_no hp]
    rw [hp] at CP
    clear hp
    go_enter Tryz.func48, Tryz.ntmps48
    go_wp2_with fail
    obtain ⟨W1, hW1⟩ : ∃ W1, ((w.alloc (.cells #[.int .i64 f, .slice a l c, .int .i64 r] 28)).alloc (.cells #[.int .i64 k, .int .i64 x, .int .i64 n, .int .i64 s, .int .i64 u] 30)) = W1 := ⟨_, rfl⟩
    rw [hW1] at HP ⊢
    clear hW1
    with_reducible refine (CP.out _ HP).mono ?_
    rintro e w1 ⟨rfl, hb⟩
    have HP := Lib.hid (HP.out.on hb)
    clear hb
    obtain ⟨b0, b1, b2, p0, p1, p2, p3, p4, -⟩ := bpS HP.out
    go_wp2_with fail
    go_ret
    exact ⟨rfl, HP.out.low⟩

theorem rleft_any (k x n s u j : Int) (w : World) (h : -1000000 ≤ n - j ∧ n - j ≤ 1000000) :
    Calls Tryz.prog 87 #[.agg #[.int .i64 k, .int .i64 x, .int .i64 n, .int .i64 s, .int .i64 u], .int .i64 j] w fun e w' => e = .returned (.int .i64 (lfN k n j)) ∧ Below w.heap.size w w' := by
  have q1 : IntKind.i64.wrap (n - j) = n - j := IntWalk.i64_in _ (by omega)
  unfold lfN
  by_cases hk : k = 0
  · rw [if_pos hk]
    subst hk
    go_enter Tryz.func87, Tryz.ntmps87
    go_wp2_with fail
    go_ret
    exact ⟨rfl, box_b _ _⟩
  · rw [if_neg hk]
    have hk2 : (k == 0) = false := by simp [hk]
    go_enter Tryz.func87, Tryz.ntmps87
    go_wp2_with fail
    go_ret
    exact ⟨rfl, box_b _ _⟩

set_option maxHeartbeats 4000000 in
theorem rparts_any (r f : Int) (xs : List Int) (a : Option Addr) (l c : Nat) (k x n s u j : Int) (w : World) (h : Ints w a l xs) (hp : poB r f xs k x n s u = true) (hj : 0 ≤ j ∧ j ≤ durN f xs k x n - 1) :
    Calls Tryz.prog 55 #[.agg #[.int .i64 f, .slice a l c, .int .i64 r], .agg #[.int .i64 k, .int .i64 x, .int .i64 n, .int .i64 s, .int .i64 u], .int .i64 j] w fun e w' => e = .returned (.tuple #[.int .i64 (ryT r f xs k x n j), .int .i64 (ryB r f xs k x n j), .int .i64 (dvN r f xs x j)]) ∧ Below w.heap.size w w' := by
  obtain ⟨ht, ⟨r0, r1⟩, ⟨hk, hkl⟩, ⟨l0, l1⟩, ⟨y0, y1, y2⟩, ⟨x0, x1⟩, ⟨n0, n1⟩, f0, f1⟩ := rv_in hp hj
  have hj120 := dur_pos hp
  have H := Lib.hid h
  clear h
  have HP := Lib.hid (BP.new w f (.slice a l c) r k x n s u 28 30)
  have CF : Hid (∀ W, Hid (BP w f (.slice a l c) r k x n s u W) → Calls Tryz.prog 87 #[.agg #[.int .i64 k, .int .i64 x, .int .i64 n, .int .i64 s, .int .i64 u], .int .i64 j] W fun e w' => e = .returned (.int .i64 (lfN k n j)) ∧ Below W.heap.size W w') :=
    Lib.hid (fun W hW => rleft_any k x n s u j W (by omega))
  have CT : Hid (∀ W, Hid (BP w f (.slice a l c) r k x n s u W) → Calls Tryz.prog 88 #[.agg #[.int .i64 f, .slice a l c], .int .i64 r, .int .i64 k, .int .i64 (x + j), .int .i64 (lfN k n j)] W fun e w' => e = .returned (.int .i64 (ryT r f xs k x n j)) ∧ Below W.heap.size W w') :=
    Lib.hid (fun W hW => stop_any r f xs a l c k (x + j) (lfN k n j) W (H.out.on hW.out.low) ht r0 r1 y0 l0 l1 y1)
  have CB : Hid (∀ W, Hid (BP w f (.slice a l c) r k x n s u W) → Calls Tryz.prog 89 #[.agg #[.int .i64 f, .slice a l c], .int .i64 r, .int .i64 k, .int .i64 (x + j), .int .i64 (lfN k n j)] W fun e w' => e = .returned (.int .i64 (ryB r f xs k x n j)) ∧ Below W.heap.size W w') :=
    Lib.hid (fun W hW => sbase_any r f xs a l c k (x + j) (lfN k n j) W (H.out.on hW.out.low) ht r0 r1 y0 l0 l1 y1)
  have CD : Hid (∀ W, Hid (BP w f (.slice a l c) r k x n s u W) → Calls Tryz.prog 43 #[.agg #[.int .i64 f, .slice a l c], .int .i64 r, .int .i64 (x + j)] W fun e w' => e = .returned (.int .i64 (dvN r f xs x j)) ∧ Below W.heap.size W w') :=
    Lib.hid (fun W hW => sD_any r f xs a l c (x + j) W (H.out.on hW.out.low) ht r0 r1 y0 (by omega))
  have q2 : IntKind.i64.wrap (x + j) = x + j := IntWalk.i64_in _ (by omega)
  obtain ⟨L, hL⟩ : ∃ y_, lfN k n j = y_ := ⟨_, rfl⟩
  obtain ⟨T, hT⟩ : ∃ y_, ryT r f xs k x n j = y_ := ⟨_, rfl⟩
  obtain ⟨B, hB⟩ : ∃ y_, ryB r f xs k x n j = y_ := ⟨_, rfl⟩
  obtain ⟨D, hD⟩ : ∃ y_, dvN r f xs x j = y_ := ⟨_, rfl⟩
  rw [hL] at CF CT CB
  rw [hT] at CT
  rw [hB] at CB
  rw [hD] at CD
  rw [hT, hB, hD]
  clear hL hT hB hD ht hk hkl l0 l1 hp hj
  go_enter Tryz.func55, Tryz.ntmps55
  go_wp2_with fail
  obtain ⟨W1, hW1⟩ : ∃ W1, ((w.alloc (.cells #[.int .i64 f, .slice a l c, .int .i64 r] 28)).alloc (.cells #[.int .i64 k, .int .i64 x, .int .i64 n, .int .i64 s, .int .i64 u] 30)) = W1 := ⟨_, rfl⟩
  rw [hW1] at HP ⊢
  clear hW1
  with_reducible refine (CF.out _ HP).mono ?_
  rintro e w1 ⟨rfl, hb⟩
  have HP := Lib.hid (HP.out.on hb)
  clear hb
  obtain ⟨b0, b1, b2, p0, p1, p2, p3, p4, -⟩ := bpS HP.out
  go_wp2_with fail
  go_region_held3 (fun W9 => W9.cell? ⟨w.heap.size, 0, none⟩ = some (.int .i64 f) ∧ W9.cell? ⟨w.heap.size, 1, none⟩ = some (.slice a l c) ∧ W9.cell? ⟨w.heap.size, 2, none⟩ = some (.int .i64 r) ∧ W9.cell? ⟨w.heap.size + 1, 0, none⟩ = some (.int .i64 k) ∧ W9.cell? ⟨w.heap.size + 1, 1, none⟩ = some (.int .i64 x) ∧ W9.cell? ⟨w.heap.size + 1, 2, none⟩ = some (.int .i64 n) ∧ W9.cell? ⟨w.heap.size + 1, 3, none⟩ = some (.int .i64 s) ∧ W9.cell? ⟨w.heap.size + 1, 4, none⟩ = some (.int .i64 u) ∧ Hid (BP w f (.slice a l c) r k x n s u W9))
      (first
        | (go_split_ands; exact ⟨by with_reducible assumption, by with_reducible assumption, by with_reducible assumption, by with_reducible assumption, by with_reducible assumption, by with_reducible assumption, by with_reducible assumption, by with_reducible assumption, by with_reducible assumption⟩)
        | (go_split_ands; with_reducible exact bpS HP.out)
        | (go_split_ands; with_reducible exact bpS (BP.drew HP.out))
        | (go_split_ands; with_reducible exact bpS (BP.on (Hid.out (by with_reducible assumption)) hb))
        | fail)
      (first
        | (go_split_ands; go_at_call 88; ((with_reducible refine (CT.out _ (by with_reducible assumption)).mono ?_); rintro e w' ⟨rfl, hb⟩))
        | (go_split_ands; go_at_call 89; ((with_reducible refine (CB.out _ (by with_reducible assumption)).mono ?_); rintro e w' ⟨rfl, hb⟩))
        | (go_split_ands; go_at_call 43; ((with_reducible refine (CD.out _ (by with_reducible assumption)).mono ?_); rintro e w' ⟨rfl, hb⟩))
        | fail)
  all_goals
    go_split_ands
    go_wp2_with fail
    go_ret3
    exact ⟨rfl, bpLow f (.slice a l c) r k x n s u (by with_reducible assumption)⟩

set_option maxHeartbeats 4000000 in
theorem rfwd_any (r f : Int) (xs : List Int) (a : Option Addr) (l c : Nat) (k x n s u j : Int) (w : World) (h : Ints w a l xs) (hp : poB r f xs k x n s u = true) (hj : 0 ≤ j ∧ j ≤ durN f xs k x n - 1) (hd : dvN r f xs x j ≠ 0) :
    Calls Tryz.prog 52 #[.agg #[.int .i64 f, .slice a l c, .int .i64 r], .agg #[.int .i64 k, .int .i64 x, .int .i64 n, .int .i64 s, .int .i64 u], .int .i64 j] w fun e w' => e = .returned (.tuple #[.int .i64 (fwN r f xs k x n s j / dvN r f xs x j), .int .i64 (fwN r f xs k x n s j % dvN r f xs x j)]) ∧ Below w.heap.size w w' := by
  have H := Lib.hid h
  clear h
  have HP := Lib.hid (BP.new w f (.slice a l c) r k x n s u 28 30)
  have CA : Hid (∀ W, Hid (BP w f (.slice a l c) r k x n s u W) → Calls Tryz.prog 55 #[.agg #[.int .i64 f, .slice a l c, .int .i64 r], .agg #[.int .i64 k, .int .i64 x, .int .i64 n, .int .i64 s, .int .i64 u], .int .i64 j] W fun e w' => e = .returned (.tuple #[.int .i64 (ryT r f xs k x n j), .int .i64 (ryB r f xs k x n j), .int .i64 (dvN r f xs x j)]) ∧ Below W.heap.size W w') :=
    Lib.hid (fun W hW => rparts_any r f xs a l c k x n s u j W (H.out.on hW.out.low) hp hj)
  have CN : Hid (∀ W, Hid (BP w f (.slice a l c) r k x n s u W) → Calls Tryz.prog 57 #[.agg #[.int .i64 f, .slice a l c, .int .i64 r], .agg #[.int .i64 k, .int .i64 x, .int .i64 n, .int .i64 s, .int .i64 u]] W fun e w' => e = .returned (.int .i64 (netN r f xs k x n s)) ∧ Below W.heap.size W w') :=
    Lib.hid (fun W hW => snet_any r f xs a l c k x n s u W (H.out.on hW.out.low) hp)
  obtain ⟨⟨m1, m2⟩, -, -⟩ := rv_bds hp hj hd
  obtain ⟨t, b, d, t0, b0, p, e1, e2, e3, e4, e5, e6, ⟨t1, t2⟩, ⟨d0, d1⟩, ⟨v0, v1⟩, ⟨t3, t4⟩, ⟨v2, v3⟩, ⟨p0, p1⟩, g0, g1, s0, s1⟩ := rv_nums hp hj hd
  unfold fwN at m1 m2 ⊢
  rw [e1, e2, e3, e6] at m1 m2 ⊢
  rw [e1, e2, e3] at CA
  rw [e6] at CN
  have CM := Lib.hid (fun W => sminus_any s t p b d 20000000000 W (by omega) (by omega) p0 (by omega) t1 (by omega) (by omega) (by omega) d0 d1 (by omega) (by omega) m1 m2)
  obtain ⟨X, hX⟩ : ∃ y_, (s * t - p * b) / d = y_ := ⟨_, rfl⟩
  obtain ⟨Y, hY⟩ : ∃ y_, (s * t - p * b) % d = y_ := ⟨_, rfl⟩
  rw [hX, hY] at CM
  rw [hX, hY]
  clear hX hY e1 e2 e3 e4 e5 e6 m1 m2 t1 t2 d0 d1 v0 v1 t3 t4 v2 v3 p0 p1 g0 g1 s0 s1 hp hj hd
  go_enter Tryz.func52, Tryz.ntmps52
  go_wp2_with fail
  obtain ⟨W1, hW1⟩ : ∃ W1, ((w.alloc (.cells #[.int .i64 f, .slice a l c, .int .i64 r] 28)).alloc (.cells #[.int .i64 k, .int .i64 x, .int .i64 n, .int .i64 s, .int .i64 u] 30)) = W1 := ⟨_, rfl⟩
  rw [hW1] at HP ⊢
  clear hW1
  with_reducible refine (CA.out _ HP).mono ?_
  rintro e w1 ⟨rfl, hb⟩
  have HP := Lib.hid (HP.out.on hb)
  clear hb
  obtain ⟨b0, b1, b2, p0, p1, p2, p3, p4, -⟩ := bpS HP.out
  go_wp2_with fail
  go_region_held3 (fun W9 => W9.cell? ⟨w.heap.size, 0, none⟩ = some (.int .i64 f) ∧ W9.cell? ⟨w.heap.size, 1, none⟩ = some (.slice a l c) ∧ W9.cell? ⟨w.heap.size, 2, none⟩ = some (.int .i64 r) ∧ W9.cell? ⟨w.heap.size + 1, 0, none⟩ = some (.int .i64 k) ∧ W9.cell? ⟨w.heap.size + 1, 1, none⟩ = some (.int .i64 x) ∧ W9.cell? ⟨w.heap.size + 1, 2, none⟩ = some (.int .i64 n) ∧ W9.cell? ⟨w.heap.size + 1, 3, none⟩ = some (.int .i64 s) ∧ W9.cell? ⟨w.heap.size + 1, 4, none⟩ = some (.int .i64 u) ∧ Hid (BP w f (.slice a l c) r k x n s u W9))
      (first
        | (go_split_ands; exact ⟨by with_reducible assumption, by with_reducible assumption, by with_reducible assumption, by with_reducible assumption, by with_reducible assumption, by with_reducible assumption, by with_reducible assumption, by with_reducible assumption, by with_reducible assumption⟩)
        | (go_split_ands; with_reducible exact bpS HP.out)
        | (go_split_ands; with_reducible exact bpS (BP.drew HP.out))
        | (go_split_ands; with_reducible exact bpS (BP.on (Hid.out (by with_reducible assumption)) hb))
        | fail)
      (first
        | (go_split_ands; go_at_call 57; ((with_reducible refine (CN.out _ (by with_reducible assumption)).mono ?_); rintro e w' ⟨rfl, hb⟩))
        | (go_split_ands; go_at_call 56; ((with_reducible refine (CM.out _).mono ?_); rintro e w' ⟨rfl, rfl⟩))
        | fail)
  all_goals
    go_split_ands
    go_wp2_with fail
    go_ret2
    exact ⟨rfl, bpLow f (.slice a l c) r k x n s u (by with_reducible assumption)⟩

set_option maxHeartbeats 2000000 in
theorem rat_any (r f : Int) (xs : List Int) (a : Option Addr) (l c : Nat) (k x n s u j : Int) (w : World) (h : Ints w a l xs) (hp : poB r f xs k x n s u = true) (hj : 0 ≤ j ∧ j ≤ durN f xs k x n - 1) (hd : dvN r f xs x j ≠ 0) :
    Calls Tryz.prog 44 #[.agg #[.int .i64 f, .slice a l c, .int .i64 r], .agg #[.int .i64 k, .int .i64 x, .int .i64 n, .int .i64 s, .int .i64 u], .int .i64 j] w fun e w' => e = .returned (.int .i64 (ktN r f xs k x n s j)) ∧ Below w.heap.size w w' := by
  have H := Lib.hid h
  clear h
  have HP := Lib.hid (BP.new w f (.slice a l c) r k x n s u 28 30)
  have CF : Hid (∀ W, Hid (BP w f (.slice a l c) r k x n s u W) → Calls Tryz.prog 52 #[.agg #[.int .i64 f, .slice a l c, .int .i64 r], .agg #[.int .i64 k, .int .i64 x, .int .i64 n, .int .i64 s, .int .i64 u], .int .i64 j] W fun e w' => e = .returned (.tuple #[.int .i64 (fwN r f xs k x n s j / dvN r f xs x j), .int .i64 (fwN r f xs k x n s j % dvN r f xs x j)]) ∧ Below W.heap.size W w') :=
    Lib.hid (fun W hW => rfwd_any r f xs a l c k x n s u j W (H.out.on hW.out.low) hp hj hd)
  obtain ⟨q, m, e1, e2, q0, q1, m0, m1, m2, e3, -⟩ := kt_bd hp hj hd
  rw [e1, e2] at CF
  rw [e3]
  clear e1 e2 e3 m1 m2 hp hj hd
  have q2 : IntKind.i64.wrap (q + min 1 m) = q + min 1 m := IntWalk.i64_in _ (by omega)
  go_enter Tryz.func44, Tryz.ntmps44
  go_wp2_with fail
  obtain ⟨W1, hW1⟩ : ∃ W1, ((w.alloc (.cells #[.int .i64 f, .slice a l c, .int .i64 r] 28)).alloc (.cells #[.int .i64 k, .int .i64 x, .int .i64 n, .int .i64 s, .int .i64 u] 30)) = W1 := ⟨_, rfl⟩
  rw [hW1] at HP ⊢
  clear hW1
  with_reducible refine (CF.out _ HP).mono ?_
  rintro e w1 ⟨rfl, hb⟩
  have HP := Lib.hid (HP.out.on hb)
  clear hb
  obtain ⟨b0, b1, b2, p0, p1, p2, p3, p4, -⟩ := bpS HP.out
  go_wp2_with fail
  all_goals
    go_ret
    exact ⟨ret_int (by omega), HP.out.low⟩

/-- the first year is the whole assurance -/
theorem ry_zero {r f : Int} {xs : List Int} {k x n s u : Int} (hp : poB r f xs k x n s u = true) : ryT r f xs k x n 0 = asT r f xs k x n ∧ ryB r f xs k x n 0 = asB r f xs k x n := by
  have hz := (poB_iff.1 hp).1
  unfold asE at hz
  have hkn := (as_in hz).2.1.2
  have e : lfN k n 0 = n := by
    unfold lfN
    by_cases h : k = 0
    · rw [if_pos h, hkn.1 h]
    · rw [if_neg h, Int.sub_zero]
  unfold ryT ryB
  rw [e, Int.add_zero]
  exact ⟨rfl, rfl⟩

set_option maxHeartbeats 4000000 in
theorem sfr_any (r f : Int) (xs : List Int) (a : Option Addr) (l c : Nat) (k x n s u j : Int) (w : World) (h : Ints w a l xs) :
    Calls Tryz.prog 25 #[.agg #[.int .i64 f, .slice a l c, .int .i64 r], .agg #[.int .i64 k, .int .i64 x, .int .i64 n, .int .i64 s, .int .i64 u], .int .i64 j] w (IIIPost (qdV (rvE r f xs k x n s u j) (fwN r f xs k x n s j) (dvN r f xs x j)) (rdV (rvE r f xs k x n s u j) (fwN r f xs k x n s j) (dvN r f xs x j)) (rvE r f xs k x n s u j) w) := by
  have H := Lib.hid h
  clear h
  have HP := Lib.hid (BP.new w f (.slice a l c) r k x n s u 28 30)
  unfold IIIPost
  have CE : Hid (∀ W, Hid (BP w f (.slice a l c) r k x n s u W) → Calls Tryz.prog 48 #[.agg #[.int .i64 f, .slice a l c, .int .i64 r], .agg #[.int .i64 k, .int .i64 x, .int .i64 n, .int .i64 s, .int .i64 u], .int .i64 j] W fun e w' => e = .returned (.int .i64 (rvE r f xs k x n s u j)) ∧ Below W.heap.size W w') :=
    Lib.hid (fun W hW => rcode_any r f xs a l c k x n s u j W (H.out.on hW.out.low))
  by_cases he : rvE r f xs k x n s u j = 0
  · have HV : Hid (qdV (rvE r f xs k x n s u j) (fwN r f xs k x n s j) (dvN r f xs x j) = fwN r f xs k x n s j / dvN r f xs x j ∧ rdV (rvE r f xs k x n s u j) (fwN r f xs k x n s j) (dvN r f xs x j) = fwN r f xs k x n s j % dvN r f xs x j) := Lib.hid (by unfold qdV rdV; rw [if_pos he, if_pos he]; exact ⟨rfl, rfl⟩)
    rw [HV.out.1, HV.out.2, he]
    rw [he] at CE
    obtain ⟨hp, hj, hd⟩ := rvE_iff.1 he
    clear HV he
    have CF : Hid (∀ W, Hid (BP w f (.slice a l c) r k x n s u W) → Calls Tryz.prog 52 #[.agg #[.int .i64 f, .slice a l c, .int .i64 r], .agg #[.int .i64 k, .int .i64 x, .int .i64 n, .int .i64 s, .int .i64 u], .int .i64 j] W fun e w' => e = .returned (.tuple #[.int .i64 (fwN r f xs k x n s j / dvN r f xs x j), .int .i64 (fwN r f xs k x n s j % dvN r f xs x j)]) ∧ Below W.heap.size W w') :=
        Lib.hid (fun W hW => rfwd_any r f xs a l c k x n s u j W (H.out.on hW.out.low) hp hj hd)
    obtain ⟨X, hX⟩ : ∃ y_, fwN r f xs k x n s j / dvN r f xs x j = y_ := ⟨_, rfl⟩
    obtain ⟨Y, hY⟩ : ∃ y_, fwN r f xs k x n s j % dvN r f xs x j = y_ := ⟨_, rfl⟩
    rw [hX, hY] at CF ⊢
    clear hX hY hp hj hd
    go_enter Tryz.func25, Tryz.ntmps25
    go_wp2_with fail
    obtain ⟨W1, hW1⟩ : ∃ W1, ((w.alloc (.cells #[.int .i64 f, .slice a l c, .int .i64 r] 28)).alloc (.cells #[.int .i64 k, .int .i64 x, .int .i64 n, .int .i64 s, .int .i64 u] 30)) = W1 := ⟨_, rfl⟩
    rw [hW1] at HP ⊢
    clear hW1
    with_reducible refine (CE.out _ HP).mono ?_
    rintro e w1 ⟨rfl, hb⟩
    have HP := Lib.hid (HP.out.on hb)
    clear hb
    obtain ⟨b0, b1, b2, p0, p1, p2, p3, p4, -⟩ := bpS HP.out
    go_wp2_with fail
    with_reducible refine (CF.out _ HP).mono ?_
    rintro e w1 ⟨rfl, hb⟩
    have HP := Lib.hid (HP.out.on hb)
    clear b0 b1 b2 p0 p1 p2 p3 p4 hb
    obtain ⟨b0, b1, b2, p0, p1, p2, p3, p4, -⟩ := bpS HP.out
    go_wp2_with fail
    go_ret3
    exact ⟨rfl, HP.out.low⟩
  · have HV : Hid (qdV (rvE r f xs k x n s u j) (fwN r f xs k x n s j) (dvN r f xs x j) = 0 ∧ rdV (rvE r f xs k x n s u j) (fwN r f xs k x n s j) (dvN r f xs x j) = 0) := Lib.hid (by unfold qdV rdV; rw [if_neg he, if_neg he]; exact ⟨rfl, rfl⟩)
    rw [HV.out.1, HV.out.2]
    obtain ⟨E, hE⟩ : ∃ y_, rvE r f xs k x n s u j = y_ := ⟨_, rfl⟩
    rw [hE] at CE he ⊢
    have hb2 : (E != 0) = true := by simp [he]
    clear hE HV he
    go_enter Tryz.func25, Tryz.ntmps25
    go_wp2_with fail
    obtain ⟨W1, hW1⟩ : ∃ W1, ((w.alloc (.cells #[.int .i64 f, .slice a l c, .int .i64 r] 28)).alloc (.cells #[.int .i64 k, .int .i64 x, .int .i64 n, .int .i64 s, .int .i64 u] 30)) = W1 := ⟨_, rfl⟩
    rw [hW1] at HP ⊢
    clear hW1
    with_reducible refine (CE.out _ HP).mono ?_
    rintro e w1 ⟨rfl, hb⟩
    have HP := Lib.hid (HP.out.on hb)
    clear hb
    obtain ⟨b0, b1, b2, p0, p1, p2, p3, p4, -⟩ := bpS HP.out
    go_wp2_with fail
    go_ret3
    exact ⟨rfl, HP.out.low⟩

set_option maxHeartbeats 4000000 in
theorem sbr_any (r f : Int) (xs : List Int) (a : Option Addr) (l c : Nat) (k x n s u j : Int) (w : World) (h : Ints w a l xs) :
    Calls Tryz.prog 29 #[.agg #[.int .i64 f, .slice a l c, .int .i64 r], .agg #[.int .i64 k, .int .i64 x, .int .i64 n, .int .i64 s, .int .i64 u], .int .i64 j] w (IIIPost (qdV (rvE r f xs k x n s u j) (bwN r f xs k x n s j) (dvN r f xs x j)) (rdV (rvE r f xs k x n s u j) (bwN r f xs k x n s j) (dvN r f xs x j)) (rvE r f xs k x n s u j) w) := by
  have H := Lib.hid h
  clear h
  have HP := Lib.hid (BP.new w f (.slice a l c) r k x n s u 28 30)
  unfold IIIPost
  have CE : Hid (∀ W, Hid (BP w f (.slice a l c) r k x n s u W) → Calls Tryz.prog 48 #[.agg #[.int .i64 f, .slice a l c, .int .i64 r], .agg #[.int .i64 k, .int .i64 x, .int .i64 n, .int .i64 s, .int .i64 u], .int .i64 j] W fun e w' => e = .returned (.int .i64 (rvE r f xs k x n s u j)) ∧ Below W.heap.size W w') :=
    Lib.hid (fun W hW => rcode_any r f xs a l c k x n s u j W (H.out.on hW.out.low))
  by_cases he : rvE r f xs k x n s u j = 0
  · have HV : Hid (qdV (rvE r f xs k x n s u j) (bwN r f xs k x n s j) (dvN r f xs x j) = bwN r f xs k x n s j / dvN r f xs x j ∧ rdV (rvE r f xs k x n s u j) (bwN r f xs k x n s j) (dvN r f xs x j) = bwN r f xs k x n s j % dvN r f xs x j) := Lib.hid (by unfold qdV rdV; rw [if_pos he, if_pos he]; exact ⟨rfl, rfl⟩)
    rw [HV.out.1, HV.out.2, he]
    rw [he] at CE
    obtain ⟨hp, hj, hd⟩ := rvE_iff.1 he
    clear HV he
    have CA : Hid (∀ W, Hid (BP w f (.slice a l c) r k x n s u W) → Calls Tryz.prog 55 #[.agg #[.int .i64 f, .slice a l c, .int .i64 r], .agg #[.int .i64 k, .int .i64 x, .int .i64 n, .int .i64 s, .int .i64 u], .int .i64 j] W fun e w' => e = .returned (.tuple #[.int .i64 (ryT r f xs k x n j), .int .i64 (ryB r f xs k x n j), .int .i64 (dvN r f xs x j)]) ∧ Below W.heap.size W w') :=
        Lib.hid (fun W hW => rparts_any r f xs a l c k x n s u j W (H.out.on hW.out.low) hp hj)
    have CZ : Hid (∀ W, Hid (BP w f (.slice a l c) r k x n s u W) → Calls Tryz.prog 55 #[.agg #[.int .i64 f, .slice a l c, .int .i64 r], .agg #[.int .i64 k, .int .i64 x, .int .i64 n, .int .i64 s, .int .i64 u], .int .i64 0] W fun e w' => e = .returned (.tuple #[.int .i64 (ryT r f xs k x n 0), .int .i64 (ryB r f xs k x n 0), .int .i64 (dvN r f xs x 0)]) ∧ Below W.heap.size W w') :=
        Lib.hid (fun W hW => rparts_any r f xs a l c k x n s u 0 W (H.out.on hW.out.low) hp ⟨by omega, by omega⟩)
    have CN : Hid (∀ W, Hid (BP w f (.slice a l c) r k x n s u W) → Calls Tryz.prog 57 #[.agg #[.int .i64 f, .slice a l c, .int .i64 r], .agg #[.int .i64 k, .int .i64 x, .int .i64 n, .int .i64 s, .int .i64 u]] W fun e w' => e = .returned (.int .i64 (netN r f xs k x n s)) ∧ Below W.heap.size W w') :=
        Lib.hid (fun W hW => snet_any r f xs a l c k x n s u W (H.out.on hW.out.low) hp)
    obtain ⟨z1, z2⟩ := ry_zero hp
    obtain ⟨-, -, m1, m2⟩ := rv_bds hp hj hd
    obtain ⟨t, b, d, t0, b0, p, e1, e2, e3, e4, e5, e6, ⟨t1, t2⟩, ⟨d0, d1⟩, ⟨v0, v1⟩, ⟨t3, t4⟩, ⟨v2, v3⟩, ⟨p0, p1⟩, g0, g1, s0, s1⟩ := rv_nums hp hj hd
    obtain ⟨d9, hd9⟩ : ∃ y_, dvN r f xs x 0 = y_ := ⟨_, rfl⟩
    rw [z1, z2, hd9] at CZ
    unfold bwN at m1 m2 ⊢
    rw [e1, e2, e3, e4, e5, e6] at m1 m2 ⊢
    rw [e1, e2, e3] at CA
    rw [e4, e5] at CZ
    rw [e6] at CN
    have q1 : IntKind.i64.wrap (b0 - b) = b0 - b := IntWalk.i64_in _ (by omega)
    have q2 : IntKind.i64.wrap (t0 - t) = t0 - t := IntWalk.i64_in _ (by omega)
    have CM := Lib.hid (fun W => sminus_any p (b0 - b) s (t0 - t) d 152000020000000000 W p0 (by omega) (by omega) (by omega) (by omega) (by omega) (by omega) (by omega) d0 d1 (by omega) (by omega) (by omega) (by omega))
    clear z1 z2 hd9
    obtain ⟨X, hX⟩ : ∃ y_, (p * (b0 - b) - s * (t0 - t)) / d = y_ := ⟨_, rfl⟩
    obtain ⟨Y, hY⟩ : ∃ y_, (p * (b0 - b) - s * (t0 - t)) % d = y_ := ⟨_, rfl⟩
    rw [hX, hY] at CM
    rw [hX, hY]
    clear hX hY e1 e2 e3 e4 e5 e6 m1 m2 t1 t2 d0 d1 v0 v1 t3 t4 v2 v3 p0 p1 g0 g1 s0 s1 hp hj hd
    go_enter Tryz.func29, Tryz.ntmps29
    go_wp2_with fail
    obtain ⟨W1, hW1⟩ : ∃ W1, ((w.alloc (.cells #[.int .i64 f, .slice a l c, .int .i64 r] 28)).alloc (.cells #[.int .i64 k, .int .i64 x, .int .i64 n, .int .i64 s, .int .i64 u] 30)) = W1 := ⟨_, rfl⟩
    rw [hW1] at HP ⊢
    clear hW1
    with_reducible refine (CE.out _ HP).mono ?_
    rintro e w1 ⟨rfl, hb⟩
    have HP := Lib.hid (HP.out.on hb)
    clear hb
    obtain ⟨b0, b1, b2, p0, p1, p2, p3, p4, -⟩ := bpS HP.out
    go_wp2_with fail
    with_reducible refine (CA.out _ HP).mono ?_
    rintro e w1 ⟨rfl, hb⟩
    have HP := Lib.hid (HP.out.on hb)
    clear b0 b1 b2 p0 p1 p2 p3 p4 hb
    obtain ⟨b0, b1, b2, p0, p1, p2, p3, p4, -⟩ := bpS HP.out
    go_wp2_with fail
    with_reducible refine (CZ.out _ HP).mono ?_
    rintro e w1 ⟨rfl, hb⟩
    have HP := Lib.hid (HP.out.on hb)
    clear b0 b1 b2 p0 p1 p2 p3 p4 hb
    obtain ⟨b0, b1, b2, p0, p1, p2, p3, p4, -⟩ := bpS HP.out
    go_wp2_with fail
    go_region_held3 (fun W9 => W9.cell? ⟨w.heap.size, 0, none⟩ = some (.int .i64 f) ∧ W9.cell? ⟨w.heap.size, 1, none⟩ = some (.slice a l c) ∧ W9.cell? ⟨w.heap.size, 2, none⟩ = some (.int .i64 r) ∧ W9.cell? ⟨w.heap.size + 1, 0, none⟩ = some (.int .i64 k) ∧ W9.cell? ⟨w.heap.size + 1, 1, none⟩ = some (.int .i64 x) ∧ W9.cell? ⟨w.heap.size + 1, 2, none⟩ = some (.int .i64 n) ∧ W9.cell? ⟨w.heap.size + 1, 3, none⟩ = some (.int .i64 s) ∧ W9.cell? ⟨w.heap.size + 1, 4, none⟩ = some (.int .i64 u) ∧ Hid (BP w f (.slice a l c) r k x n s u W9))
        (first
          | (go_split_ands; exact ⟨by with_reducible assumption, by with_reducible assumption, by with_reducible assumption, by with_reducible assumption, by with_reducible assumption, by with_reducible assumption, by with_reducible assumption, by with_reducible assumption, by with_reducible assumption⟩)
          | (go_split_ands; with_reducible exact bpS HP.out)
          | (go_split_ands; with_reducible exact bpS (BP.drew HP.out))
          | (go_split_ands; with_reducible exact bpS (BP.on (Hid.out (by with_reducible assumption)) hb))
          | fail)
        (first
          | (go_split_ands; go_at_call 57; ((with_reducible refine (CN.out _ (by with_reducible assumption)).mono ?_); rintro e w' ⟨rfl, hb⟩))
          | (go_split_ands; go_at_call 56; ((with_reducible refine (CM.out _).mono ?_); rintro e w' ⟨rfl, rfl⟩))
          | fail)
    all_goals
      go_split_ands
      go_wp2_with fail
      go_ret3
      exact ⟨rfl, bpLow f (.slice a l c) r k x n s u (by with_reducible assumption)⟩
  · have HV : Hid (qdV (rvE r f xs k x n s u j) (bwN r f xs k x n s j) (dvN r f xs x j) = 0 ∧ rdV (rvE r f xs k x n s u j) (bwN r f xs k x n s j) (dvN r f xs x j) = 0) := Lib.hid (by unfold qdV rdV; rw [if_neg he, if_neg he]; exact ⟨rfl, rfl⟩)
    rw [HV.out.1, HV.out.2]
    obtain ⟨E, hE⟩ : ∃ y_, rvE r f xs k x n s u j = y_ := ⟨_, rfl⟩
    rw [hE] at CE he ⊢
    have hb2 : (E != 0) = true := by simp [he]
    clear hE HV he
    go_enter Tryz.func29, Tryz.ntmps29
    go_wp2_with fail
    obtain ⟨W1, hW1⟩ : ∃ W1, ((w.alloc (.cells #[.int .i64 f, .slice a l c, .int .i64 r] 28)).alloc (.cells #[.int .i64 k, .int .i64 x, .int .i64 n, .int .i64 s, .int .i64 u] 30)) = W1 := ⟨_, rfl⟩
    rw [hW1] at HP ⊢
    clear hW1
    with_reducible refine (CE.out _ HP).mono ?_
    rintro e w1 ⟨rfl, hb⟩
    have HP := Lib.hid (HP.out.on hb)
    clear hb
    obtain ⟨b0, b1, b2, p0, p1, p2, p3, p4, -⟩ := bpS HP.out
    go_wp2_with fail
    go_ret3
    exact ⟨rfl, HP.out.low⟩

set_option maxHeartbeats 4000000 in
theorem sga_any (r f : Int) (xs : List Int) (a : Option Addr) (l c : Nat) (k x n s u j : Int) (w : World) (h : Ints w a l xs) :
    Calls Tryz.prog 31 #[.agg #[.int .i64 f, .slice a l c, .int .i64 r], .agg #[.int .i64 k, .int .i64 x, .int .i64 n, .int .i64 s, .int .i64 u], .int .i64 j] w (IIIPost (qdV (rvE r f xs k x n s u j) (gnN r f xs k x n s) (dvN r f xs x j)) (rdV (rvE r f xs k x n s u j) (gnN r f xs k x n s) (dvN r f xs x j)) (rvE r f xs k x n s u j) w) := by
  have H := Lib.hid h
  clear h
  have HP := Lib.hid (BP.new w f (.slice a l c) r k x n s u 28 30)
  unfold IIIPost
  have CE : Hid (∀ W, Hid (BP w f (.slice a l c) r k x n s u W) → Calls Tryz.prog 48 #[.agg #[.int .i64 f, .slice a l c, .int .i64 r], .agg #[.int .i64 k, .int .i64 x, .int .i64 n, .int .i64 s, .int .i64 u], .int .i64 j] W fun e w' => e = .returned (.int .i64 (rvE r f xs k x n s u j)) ∧ Below W.heap.size W w') :=
    Lib.hid (fun W hW => rcode_any r f xs a l c k x n s u j W (H.out.on hW.out.low))
  by_cases he : rvE r f xs k x n s u j = 0
  · have HV : Hid (qdV (rvE r f xs k x n s u j) (gnN r f xs k x n s) (dvN r f xs x j) = gnN r f xs k x n s / dvN r f xs x j ∧ rdV (rvE r f xs k x n s u j) (gnN r f xs k x n s) (dvN r f xs x j) = gnN r f xs k x n s % dvN r f xs x j) := Lib.hid (by unfold qdV rdV; rw [if_pos he, if_pos he]; exact ⟨rfl, rfl⟩)
    rw [HV.out.1, HV.out.2, he]
    rw [he] at CE
    obtain ⟨hp, hj, hd⟩ := rvE_iff.1 he
    clear HV he
    have CZ : Hid (∀ W, Hid (BP w f (.slice a l c) r k x n s u W) → Calls Tryz.prog 55 #[.agg #[.int .i64 f, .slice a l c, .int .i64 r], .agg #[.int .i64 k, .int .i64 x, .int .i64 n, .int .i64 s, .int .i64 u], .int .i64 0] W fun e w' => e = .returned (.tuple #[.int .i64 (ryT r f xs k x n 0), .int .i64 (ryB r f xs k x n 0), .int .i64 (dvN r f xs x 0)]) ∧ Below W.heap.size W w') :=
        Lib.hid (fun W hW => rparts_any r f xs a l c k x n s u 0 W (H.out.on hW.out.low) hp ⟨by omega, by omega⟩)
    have CN : Hid (∀ W, Hid (BP w f (.slice a l c) r k x n s u W) → Calls Tryz.prog 57 #[.agg #[.int .i64 f, .slice a l c, .int .i64 r], .agg #[.int .i64 k, .int .i64 x, .int .i64 n, .int .i64 s, .int .i64 u]] W fun e w' => e = .returned (.int .i64 (netN r f xs k x n s)) ∧ Below W.heap.size W w') :=
        Lib.hid (fun W hW => snet_any r f xs a l c k x n s u W (H.out.on hW.out.low) hp)
    obtain ⟨ht, ⟨r0, r1⟩, ⟨hk, hkl⟩, ⟨l0, l1⟩, ⟨y0, y1, y2⟩, ⟨x0, x1⟩, ⟨n0, n1⟩, f0, f1⟩ := rv_in hp hj
    have CD : Hid (∀ W, Hid (BP w f (.slice a l c) r k x n s u W) → Calls Tryz.prog 43 #[.agg #[.int .i64 f, .slice a l c], .int .i64 r, .int .i64 (x + j)] W fun e w' => e = .returned (.int .i64 (dvN r f xs x j)) ∧ Below W.heap.size W w') :=
        Lib.hid (fun W hW => sD_any r f xs a l c (x + j) W (H.out.on hW.out.low) ht r0 r1 y0 (by omega))
    have q1 : IntKind.i64.wrap (x + j) = x + j := IntWalk.i64_in _ (by omega)
    obtain ⟨z1, z2⟩ := ry_zero hp
    obtain ⟨-, ⟨m1, m2⟩, -⟩ := rv_bds hp hj hd
    clear ht r0 r1 hk hkl l0 l1 y0 y1 y2 x0 x1 n0 n1 f0 f1
    obtain ⟨t, b, d, t0, b0, p, e1, e2, e3, e4, e5, e6, ⟨t1, t2⟩, ⟨d0, d1⟩, ⟨v0, v1⟩, ⟨t3, t4⟩, ⟨v2, v3⟩, ⟨p0, p1⟩, g0, g1, s0, s1⟩ := rv_nums hp hj hd
    obtain ⟨d9, hd9⟩ : ∃ y_, dvN r f xs x 0 = y_ := ⟨_, rfl⟩
    rw [z1, z2, hd9] at CZ
    unfold gnN at m1 m2 ⊢
    rw [e3] at m2
    rw [e4, e5, e6] at m1 m2 ⊢
    rw [e3] at CD ⊢
    rw [e4, e5] at CZ
    rw [e6] at CN
    have CM := Lib.hid (fun W => sminus_any p b0 s t0 d 152000000000000000 W p0 (by omega) (by omega) (by omega) (by omega) (by omega) (by omega) (by omega) d0 d1 (by omega) (by omega) (by omega) (by omega))
    clear z1 z2 hd9
    obtain ⟨X, hX⟩ : ∃ y_, (p * b0 - s * t0) / d = y_ := ⟨_, rfl⟩
    obtain ⟨Y, hY⟩ : ∃ y_, (p * b0 - s * t0) % d = y_ := ⟨_, rfl⟩
    rw [hX, hY] at CM
    rw [hX, hY]
    clear hX hY e1 e2 e3 e4 e5 e6 m1 m2 t1 t2 d0 d1 v0 v1 t3 t4 v2 v3 p0 p1 g0 g1 s0 s1 hp hj hd
    go_enter Tryz.func31, Tryz.ntmps31
    go_wp2_with fail
    obtain ⟨W1, hW1⟩ : ∃ W1, ((w.alloc (.cells #[.int .i64 f, .slice a l c, .int .i64 r] 28)).alloc (.cells #[.int .i64 k, .int .i64 x, .int .i64 n, .int .i64 s, .int .i64 u] 30)) = W1 := ⟨_, rfl⟩
    rw [hW1] at HP ⊢
    clear hW1
    with_reducible refine (CE.out _ HP).mono ?_
    rintro e w1 ⟨rfl, hb⟩
    have HP := Lib.hid (HP.out.on hb)
    clear hb
    obtain ⟨b0, b1, b2, p0, p1, p2, p3, p4, -⟩ := bpS HP.out
    go_wp2_with fail
    with_reducible refine (CZ.out _ HP).mono ?_
    rintro e w1 ⟨rfl, hb⟩
    have HP := Lib.hid (HP.out.on hb)
    clear b0 b1 b2 p0 p1 p2 p3 p4 hb
    obtain ⟨b0, b1, b2, p0, p1, p2, p3, p4, -⟩ := bpS HP.out
    go_wp2_with fail
    go_region_held3 (fun W9 => W9.cell? ⟨w.heap.size, 0, none⟩ = some (.int .i64 f) ∧ W9.cell? ⟨w.heap.size, 1, none⟩ = some (.slice a l c) ∧ W9.cell? ⟨w.heap.size, 2, none⟩ = some (.int .i64 r) ∧ W9.cell? ⟨w.heap.size + 1, 0, none⟩ = some (.int .i64 k) ∧ W9.cell? ⟨w.heap.size + 1, 1, none⟩ = some (.int .i64 x) ∧ W9.cell? ⟨w.heap.size + 1, 2, none⟩ = some (.int .i64 n) ∧ W9.cell? ⟨w.heap.size + 1, 3, none⟩ = some (.int .i64 s) ∧ W9.cell? ⟨w.heap.size + 1, 4, none⟩ = some (.int .i64 u) ∧ Hid (BP w f (.slice a l c) r k x n s u W9))
        (first
          | (go_split_ands; exact ⟨by with_reducible assumption, by with_reducible assumption, by with_reducible assumption, by with_reducible assumption, by with_reducible assumption, by with_reducible assumption, by with_reducible assumption, by with_reducible assumption, by with_reducible assumption⟩)
          | (go_split_ands; with_reducible exact bpS HP.out)
          | (go_split_ands; with_reducible exact bpS (BP.drew HP.out))
          | (go_split_ands; with_reducible exact bpS (BP.on (Hid.out (by with_reducible assumption)) hb))
          | fail)
        (first
          | (go_split_ands; go_at_call 57; ((with_reducible refine (CN.out _ (by with_reducible assumption)).mono ?_); rintro e w' ⟨rfl, hb⟩))
          | (go_split_ands; go_at_call 43; ((with_reducible refine (CD.out _ (by with_reducible assumption)).mono ?_); rintro e w' ⟨rfl, hb⟩))
          | (go_split_ands; go_at_call 56; ((with_reducible refine (CM.out _).mono ?_); rintro e w' ⟨rfl, rfl⟩))
          | fail)
    all_goals
      go_split_ands
      go_wp2_with fail
      go_ret3
      exact ⟨rfl, bpLow f (.slice a l c) r k x n s u (by with_reducible assumption)⟩
  · have HV : Hid (qdV (rvE r f xs k x n s u j) (gnN r f xs k x n s) (dvN r f xs x j) = 0 ∧ rdV (rvE r f xs k x n s u j) (gnN r f xs k x n s) (dvN r f xs x j) = 0) := Lib.hid (by unfold qdV rdV; rw [if_neg he, if_neg he]; exact ⟨rfl, rfl⟩)
    rw [HV.out.1, HV.out.2]
    obtain ⟨E, hE⟩ : ∃ y_, rvE r f xs k x n s u j = y_ := ⟨_, rfl⟩
    rw [hE] at CE he ⊢
    have hb2 : (E != 0) = true := by simp [he]
    clear hE HV he
    go_enter Tryz.func31, Tryz.ntmps31
    go_wp2_with fail
    obtain ⟨W1, hW1⟩ : ∃ W1, ((w.alloc (.cells #[.int .i64 f, .slice a l c, .int .i64 r] 28)).alloc (.cells #[.int .i64 k, .int .i64 x, .int .i64 n, .int .i64 s, .int .i64 u] 30)) = W1 := ⟨_, rfl⟩
    rw [hW1] at HP ⊢
    clear hW1
    with_reducible refine (CE.out _ HP).mono ?_
    rintro e w1 ⟨rfl, hb⟩
    have HP := Lib.hid (HP.out.on hb)
    clear hb
    obtain ⟨b0, b1, b2, p0, p1, p2, p3, p4, -⟩ := bpS HP.out
    go_wp2_with fail
    go_ret3
    exact ⟨rfl, HP.out.low⟩

set_option maxHeartbeats 4000000 in
theorem sde_any (r f : Int) (xs : List Int) (a : Option Addr) (l c : Nat) (k x n s u j : Int) (w : World) (h : Ints w a l xs) :
    Calls Tryz.prog 21 #[.agg #[.int .i64 f, .slice a l c, .int .i64 r], .agg #[.int .i64 k, .int .i64 x, .int .i64 n, .int .i64 s, .int .i64 u], .int .i64 j] w (IIPost (deV r f xs k x n s u j) (rvE r f xs k x n s u j) w) := by
  have H := Lib.hid h
  clear h
  have HP := Lib.hid (BP.new w f (.slice a l c) r k x n s u 28 30)
  unfold IIPost
  have CE : Hid (∀ W, Hid (BP w f (.slice a l c) r k x n s u W) → Calls Tryz.prog 48 #[.agg #[.int .i64 f, .slice a l c, .int .i64 r], .agg #[.int .i64 k, .int .i64 x, .int .i64 n, .int .i64 s, .int .i64 u], .int .i64 j] W fun e w' => e = .returned (.int .i64 (rvE r f xs k x n s u j)) ∧ Below W.heap.size W w') :=
    Lib.hid (fun W hW => rcode_any r f xs a l c k x n s u j W (H.out.on hW.out.low))
  by_cases he : rvE r f xs k x n s u j = 0
  · have HV : Hid (deV r f xs k x n s u j = dvN r f xs x j) := Lib.hid (by unfold deV; rw [if_pos he])
    rw [HV.out, he]
    rw [he] at CE
    obtain ⟨hp, hj, hd⟩ := rvE_iff.1 he
    obtain ⟨ht, ⟨r0, r1⟩, ⟨hk, hkl⟩, ⟨l0, l1⟩, ⟨y0, y1, y2⟩, ⟨x0, x1⟩, ⟨n0, n1⟩, f0, f1⟩ := rv_in hp hj
    have CD : Hid (∀ W, Hid (BP w f (.slice a l c) r k x n s u W) → Calls Tryz.prog 43 #[.agg #[.int .i64 f, .slice a l c], .int .i64 r, .int .i64 (x + j)] W fun e w' => e = .returned (.int .i64 (dvN r f xs x j)) ∧ Below W.heap.size W w') :=
        Lib.hid (fun W hW => sD_any r f xs a l c (x + j) W (H.out.on hW.out.low) ht r0 r1 y0 (by omega))
    have q1 : IntKind.i64.wrap (x + j) = x + j := IntWalk.i64_in _ (by omega)
    obtain ⟨D, hD⟩ : ∃ y_, dvN r f xs x j = y_ := ⟨_, rfl⟩
    rw [hD] at CD ⊢
    clear ht r0 r1 hk hkl l0 l1 y0 y1 y2 x0 x1 n0 n1 f0 f1 hD HV he hp hj hd
    go_enter Tryz.func21, Tryz.ntmps21
    go_wp2_with fail
    obtain ⟨W1, hW1⟩ : ∃ W1, ((w.alloc (.cells #[.int .i64 f, .slice a l c, .int .i64 r] 28)).alloc (.cells #[.int .i64 k, .int .i64 x, .int .i64 n, .int .i64 s, .int .i64 u] 30)) = W1 := ⟨_, rfl⟩
    rw [hW1] at HP ⊢
    clear hW1
    with_reducible refine (CE.out _ HP).mono ?_
    rintro e w1 ⟨rfl, hb⟩
    have HP := Lib.hid (HP.out.on hb)
    clear hb
    obtain ⟨b0, b1, b2, p0, p1, p2, p3, p4, -⟩ := bpS HP.out
    go_wp2_with fail
    with_reducible refine (CD.out _ HP).mono ?_
    rintro e w1 ⟨rfl, hb⟩
    have HP := Lib.hid (HP.out.on hb)
    clear b0 b1 b2 p0 p1 p2 p3 p4 hb
    obtain ⟨b0, b1, b2, p0, p1, p2, p3, p4, -⟩ := bpS HP.out
    go_wp2_with fail
    go_ret2
    exact ⟨rfl, HP.out.low⟩
  · have HV : Hid (deV r f xs k x n s u j = 0) := Lib.hid (by unfold deV; rw [if_neg he])
    rw [HV.out]
    obtain ⟨E, hE⟩ : ∃ y_, rvE r f xs k x n s u j = y_ := ⟨_, rfl⟩
    rw [hE] at CE he ⊢
    have hb2 : (E != 0) = true := by simp [he]
    clear hE HV he
    go_enter Tryz.func21, Tryz.ntmps21
    go_wp2_with fail
    obtain ⟨W1, hW1⟩ : ∃ W1, ((w.alloc (.cells #[.int .i64 f, .slice a l c, .int .i64 r] 28)).alloc (.cells #[.int .i64 k, .int .i64 x, .int .i64 n, .int .i64 s, .int .i64 u] 30)) = W1 := ⟨_, rfl⟩
    rw [hW1] at HP ⊢
    clear hW1
    with_reducible refine (CE.out _ HP).mono ?_
    rintro e w1 ⟨rfl, hb⟩
    have HP := Lib.hid (HP.out.on hb)
    clear hb
    obtain ⟨b0, b1, b2, p0, p1, p2, p3, p4, -⟩ := bpS HP.out
    go_wp2_with fail
    go_ret2
    exact ⟨rfl, HP.out.low⟩

end Go.Proofs.YtnclncglmnbelaaGreat

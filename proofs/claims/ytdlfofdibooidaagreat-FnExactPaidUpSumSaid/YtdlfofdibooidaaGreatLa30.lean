/- Merged: Lvx. -/
import Derived.Test.YtdlfofdibooidaaGreatLa13
import Derived.Test.YtdlfofdibooidaaGreatLa28
import Derived.Test.YtdlfofdibooidaaGreatLa29
import Derived.Deep.RegionHeld3

/- The exact laws on SurrenderValue, PaidUpSum and KeptYears. (Written by wip/gen/lvx.py.) -/
namespace Go.Proofs.YtdlfofdibooidaaGreat
open Go.ChangeShapes Go.WideShapes Go.ChangeAt Go.RowKit
set_option linter.unusedVariables false
set_option maxRecDepth 100000

set_option maxHeartbeats 8000000 in
theorem fnExactSurrenderValue_walk (f : Int) (a : Option Addr) (len0 cap0 : Nat) (z0 : List Int) (r : Int) (k x n s u : Int) (j : Int) (w : World) (w0 : IsRow .i64 w a len0 cap0 z0) (w2 : (Lit.int .i64 j).wf = true) :
    Calls Tryz.prog 5 #[.agg #[.int .i64 f, .slice a len0 cap0, .int .i64 r], .agg #[.int .i64 k, .int .i64 x, .int .i64 n, .int .i64 s, .int .i64 u], .int .i64 j] w fun e w' => e = .returned (.bool true) ∧ Below w.heap.size w w' := by
  have hmx := w0.len_le
  unfold maxLen at hmx
  have HP := Lib.hid (BP.new w f (.slice a len0 cap0) r k x n s u 43 44)
  by_cases hbig : (1048576 : Int) < len0
  · go_enter Tryz.func5, Tryz.ntmps5
    go_wp2_with fail
    obtain ⟨W1, hW1⟩ : ∃ W1, ((w.alloc (.cells #[.int .i64 f, .slice a len0 cap0, .int .i64 r] 43)).alloc (.cells #[.int .i64 k, .int .i64 x, .int .i64 n, .int .i64 s, .int .i64 u] 44)) = W1 := ⟨_, rfl⟩
    rw [hW1] at HP ⊢
    clear hW1
    refine (szB_big r f a len0 cap0 _ (by omega) hbig).mono ?_
    rintro e w1 ⟨rfl, hb⟩
    have HP := Lib.hid (HP.out.on hb)
    clear hb
    go_wp2_with fail
    go_ret
    exact ⟨rfl, HP.out.low⟩
  · have h0 := w0.ints (by omega)
    obtain ⟨xs, hxs⟩ : ∃ xs, z0.take len0 = xs := ⟨_, rfl⟩
    rw [hxs] at h0
    have H := Lib.hid h0
    have HL := Lib.hid h0.len
    have hfit : (len0 : Int) ≤ 1048576 := by omega
    have hl4 : len0 ≤ 4611686018427387904 := by omega
    have TB : Hid (∀ W, Hid (BP w f (.slice a len0 cap0) r k x n s u W) → Calls Tryz.prog 30 #[.agg #[.int .i64 f, .slice a len0 cap0, .int .i64 r]] W (TbPost W f xs len0 r)) := Lib.hid (fun W hW => toB_any r f xs a len0 cap0 W (H.out.on hW.out.low) (by omega))
    have TP := Lib.hid (fun W => toP_any k x n s u W)
    have CS : Hid (∀ B W, Hid (BP w f (.slice a len0 cap0) r k x n s u W) → Hid (Blk W B xs) → Calls Tryz.prog 16 #[.agg #[.int .i64 f, .slice (some ⟨B, 0, none⟩) len0 len0, .int .i64 r], .agg #[.int .i64 k, .int .i64 x, .int .i64 n, .int .i64 s, .int .i64 u], .int .i64 j] W (IIPost (lvV (lvE r f xs k x n s u j) (lsvN r f xs k x n s j)) (lvE r f xs k x n s u j) W)) := Lib.hid (fun B W _ hk => ssv12_any r f xs (some ⟨B, 0, none⟩) len0 len0 k x n s u  j W (hk.out.ints HL.out (by omega)))
    have CI : Hid (∀ X B W, Hid (LX w f (.slice a len0 cap0) r k x n s u X B len0 xs W) → Calls Tryz.prog 15 #[.agg #[.int .i64 f, .slice (some ⟨B, 0, none⟩) len0 len0, .int .i64 r], .agg #[.int .i64 k, .int .i64 x, .int .i64 n, .int .i64 s, .int .i64 u], .int .i64 j] W (IIPost (lvV (lvE r f xs k x n s u j) (lsvN r f xs k x n s j)) (lvE r f xs k x n s u j) W)) := Lib.hid (fun X B W hk => isv12_any r f xs (some ⟨B, 0, none⟩) len0 len0 k x n s u  j W (hk.out.b.ints HL.out (by omega)) (Nat.le_refl _))
    have EQ : Hid (∀ X B C W, Hid (LX w f (.slice a len0 cap0) r k x n s u X B len0 xs W) → Hid (Blk W C xs) → Calls Tryz.prog 32 #[.agg #[.int .i64 f, .slice (some ⟨B, 0, none⟩) len0 len0, .int .i64 r], .agg #[.int .i64 f, .slice (some ⟨C, 0, none⟩) len0 len0, .int .i64 r]] W fun e w' => e = .returned (.bool true) ∧ Below W.heap.size W w') := Lib.hid (fun X B C W hk hc => eqB_same r f xs _ _ _ _ _ _ W (hk.out.b.ints HL.out (by omega)) (hc.out.ints HL.out (by omega)))
    unfold TbPost at TB
    unfold IIPost at CS CI
    obtain ⟨Z0, hZ0⟩ : ∃ y_, lvV (lvE r f xs k x n s u j) (lsvN r f xs k x n s j) = y_ := ⟨_, rfl⟩
    obtain ⟨Z1, hZ1⟩ : ∃ y_, lvE r f xs k x n s u j = y_ := ⟨_, rfl⟩
    rw [hZ0, hZ1] at CS CI
    clear hZ0 hZ1
    have hnn : ¬ (1048576 : Int) - len0 < 0 := by omega
    clear h0 w0 hxs hbig hmx
    go_enter Tryz.func5, Tryz.ntmps5
    go_wp2_with fail
    obtain ⟨W1, hW1⟩ : ∃ W1, ((w.alloc (.cells #[.int .i64 f, .slice a len0 cap0, .int .i64 r] 43)).alloc (.cells #[.int .i64 k, .int .i64 x, .int .i64 n, .int .i64 s, .int .i64 u] 44)) = W1 := ⟨_, rfl⟩
    rw [hW1] at HP ⊢
    clear hW1
    refine (szB_fit r f a len0 cap0 _ hfit).mono ?_
    rintro e w1 ⟨rfl, hb⟩
    have HP := Lib.hid (HP.out.on hb)
    obtain ⟨b0, b1, b2, p0, p1, p2, p3, p4, -⟩ := bpS HP.out
    clear hb
    go_wp2_with fail
    go_region_held3 (fun W9 => W9.cell? ⟨w.heap.size, 0, none⟩ = some (.int .i64 f) ∧ W9.cell? ⟨w.heap.size, 1, none⟩ = some (.slice a len0 cap0) ∧ W9.cell? ⟨w.heap.size, 2, none⟩ = some (.int .i64 r) ∧ W9.cell? ⟨w.heap.size + 1, 0, none⟩ = some (.int .i64 k) ∧ W9.cell? ⟨w.heap.size + 1, 1, none⟩ = some (.int .i64 x) ∧ W9.cell? ⟨w.heap.size + 1, 2, none⟩ = some (.int .i64 n) ∧ W9.cell? ⟨w.heap.size + 1, 3, none⟩ = some (.int .i64 s) ∧ W9.cell? ⟨w.heap.size + 1, 4, none⟩ = some (.int .i64 u) ∧ Hid (BP w f (.slice a len0 cap0) r k x n s u W9))
      (first
        | (go_split_ands; with_reducible exact bpS (Hid.out (by with_reducible assumption)))
        | (go_split_ands; with_reducible exact bpS (BP.on (Hid.out (by with_reducible assumption)) hb))
        | (go_split_ands; with_reducible exact bpS (BP.drew (Hid.out (by with_reducible assumption))))
        | fail)
      (first
        | (go_split_ands; go_at_call 30; ((with_reducible refine (TB.out _ (by with_reducible assumption)).mono ?_); rintro e w' ⟨B1, rfl, hg1, hk1, hb⟩; have HC1 := Lib.hid hk1; clear hk1 hg1))
        | (go_split_ands; go_at_call 31; ((with_reducible refine (TP.out _).mono ?_); rintro e w' ⟨rfl, hb⟩; have HC1 := Lib.hid (HC1.out.step hb)))
        | (go_split_ands; go_at_call 16; ((with_reducible refine (CS.out _ _ (by with_reducible assumption) HC1).mono ?_); rintro e w' ⟨rfl, hb⟩))
        | fail)
    all_goals
      go_split_ands
      have HQ : Hid (BP w f (.slice a len0 cap0) r k x n s u w') := by with_reducible assumption
      clear HP b0 b1 b2 p0 p1 p2 p3 p4
      have HP := HQ
      clear HQ
      obtain ⟨b0, b1, b2, p0, p1, p2, p3, p4, -⟩ := bpS HP.out
      go_wp2_with fail
      with_reducible refine (TB.out _ HP).mono ?_
      rintro e w5 ⟨B2, rfl, hg2, hk2, hb⟩
      have HX : Hid (LX w f (.slice a len0 cap0) r k x n s u w5.heap.size B2 len0 xs (w5.alloc (.cells #[.int .i64 f, .slice (some ⟨B2, 0, none⟩) len0 len0, .int .i64 r] 28))) := Lib.hid ⟨(HP.out.on hb).on (box_b _ _), Bx.new w5 _ _, hk2.step (box_b _ _)⟩
      have HP := Lib.hid (HP.out.on hb)
      clear b0 b1 b2 p0 p1 p2 p3 p4 hb hk2 hg2
      obtain ⟨b0, b1, b2, p0, p1, p2, p3, p4, -⟩ := bpS HP.out
      go_wp2_with fail
      obtain ⟨W6, hW6⟩ : ∃ y_, w5.alloc (.cells #[.int .i64 f, .slice (some ⟨B2, 0, none⟩) len0 len0, .int .i64 r] 28) = y_ := ⟨_, rfl⟩
      rw [hW6] at HX ⊢
      obtain ⟨X, hX⟩ : ∃ y_, w5.heap.size = y_ := ⟨_, rfl⟩
      rw [hX] at HX ⊢
      clear hW6 hX b0 b1 b2 p0 p1 p2 p3 p4
      obtain ⟨x0, x1, x2, p0, p1, p2, p3, p4, -⟩ := lxP HX.out
      go_region_held3 (fun W9 => W9.cell? ⟨X, 0, none⟩ = some (.int .i64 f) ∧ W9.cell? ⟨X, 1, none⟩ = some (.slice (some ⟨B2, 0, none⟩) len0 len0) ∧ W9.cell? ⟨X, 2, none⟩ = some (.int .i64 r) ∧ W9.cell? ⟨w.heap.size + 1, 0, none⟩ = some (.int .i64 k) ∧ W9.cell? ⟨w.heap.size + 1, 1, none⟩ = some (.int .i64 x) ∧ W9.cell? ⟨w.heap.size + 1, 2, none⟩ = some (.int .i64 n) ∧ W9.cell? ⟨w.heap.size + 1, 3, none⟩ = some (.int .i64 s) ∧ W9.cell? ⟨w.heap.size + 1, 4, none⟩ = some (.int .i64 u) ∧ Hid (LX w f (.slice a len0 cap0) r k x n s u X B2 len0 xs W9))
        (first
          | (go_split_ands; with_reducible exact lxP (Hid.out (by with_reducible assumption)))
          | (go_split_ands; with_reducible exact lxP (LX.on (Hid.out (by with_reducible assumption)) hb))
          | (go_split_ands; with_reducible exact lxP (LX.drew (Hid.out (by with_reducible assumption))))
          | fail)
        (first
          | (go_split_ands; go_at_call 31; ((with_reducible refine (TP.out _).mono ?_); rintro e w' ⟨rfl, hb⟩))
          | (go_split_ands; go_at_call 15; ((with_reducible refine (CI.out _ _ _ (by with_reducible assumption)).mono ?_); rintro e w' ⟨rfl, hb⟩))
          | fail)
      all_goals
        go_split_ands
        have HY : Hid (LX w f (.slice a len0 cap0) r k x n s u X B2 len0 xs w') := by with_reducible assumption
        clear HX x0 x1 x2 p0 p1 p2 p3 p4
        obtain ⟨x0, x1, x2, b0, b1, b2, -⟩ := lxB HY.out
        go_wp2_with fail
        go_region_held3 (fun W9 => W9.cell? ⟨X, 0, none⟩ = some (.int .i64 f) ∧ W9.cell? ⟨X, 1, none⟩ = some (.slice (some ⟨B2, 0, none⟩) len0 len0) ∧ W9.cell? ⟨X, 2, none⟩ = some (.int .i64 r) ∧ W9.cell? ⟨w.heap.size, 0, none⟩ = some (.int .i64 f) ∧ W9.cell? ⟨w.heap.size, 1, none⟩ = some (.slice a len0 cap0) ∧ W9.cell? ⟨w.heap.size, 2, none⟩ = some (.int .i64 r) ∧ Hid (LX w f (.slice a len0 cap0) r k x n s u X B2 len0 xs W9))
          (first
            | (go_split_ands; with_reducible exact lxB (Hid.out (by with_reducible assumption)))
            | (go_split_ands; with_reducible exact lxB (LX.on (Hid.out (by with_reducible assumption)) hb))
            | (go_split_ands; with_reducible exact lxB (LX.drew (Hid.out (by with_reducible assumption))))
            | fail)
          (first
            | (go_split_ands; go_at_call 30; ((with_reducible refine (TB.out _ (Lib.hid (LX.bp (Hid.out (by with_reducible assumption : Hid (LX w f (.slice a len0 cap0) r k x n s u X B2 len0 xs _)))))).mono ?_); rintro e w' ⟨B3, rfl, hg3, hk3, hb⟩; have HC3 := Lib.hid hk3; clear hk3 hg3))
            | (go_split_ands; go_at_call 32; ((with_reducible refine (EQ.out _ _ _ _ (by with_reducible assumption) HC3).mono ?_); rintro e w' ⟨rfl, hb⟩))
            | fail)
        all_goals
          go_split_ands
          have HZ : Hid (LX w f (.slice a len0 cap0) r k x n s u X B2 len0 xs w') := by with_reducible assumption
          go_wp2_with fail
          go_ret
          exact ⟨rfl, HZ.out.bp.low⟩

set_option maxHeartbeats 8000000 in
theorem fnExactPaidUpSum_walk (f : Int) (a : Option Addr) (len0 cap0 : Nat) (z0 : List Int) (r : Int) (k x n s u : Int) (j : Int) (w : World) (w0 : IsRow .i64 w a len0 cap0 z0) (w2 : (Lit.int .i64 j).wf = true) :
    Calls Tryz.prog 6 #[.agg #[.int .i64 f, .slice a len0 cap0, .int .i64 r], .agg #[.int .i64 k, .int .i64 x, .int .i64 n, .int .i64 s, .int .i64 u], .int .i64 j] w fun e w' => e = .returned (.bool true) ∧ Below w.heap.size w w' := by
  have hmx := w0.len_le
  unfold maxLen at hmx
  have HP := Lib.hid (BP.new w f (.slice a len0 cap0) r k x n s u 43 44)
  by_cases hbig : (1048576 : Int) < len0
  · go_enter Tryz.func6, Tryz.ntmps6
    go_wp2_with fail
    obtain ⟨W1, hW1⟩ : ∃ W1, ((w.alloc (.cells #[.int .i64 f, .slice a len0 cap0, .int .i64 r] 43)).alloc (.cells #[.int .i64 k, .int .i64 x, .int .i64 n, .int .i64 s, .int .i64 u] 44)) = W1 := ⟨_, rfl⟩
    rw [hW1] at HP ⊢
    clear hW1
    refine (szB_big r f a len0 cap0 _ (by omega) hbig).mono ?_
    rintro e w1 ⟨rfl, hb⟩
    have HP := Lib.hid (HP.out.on hb)
    clear hb
    go_wp2_with fail
    go_ret
    exact ⟨rfl, HP.out.low⟩
  · have h0 := w0.ints (by omega)
    obtain ⟨xs, hxs⟩ : ∃ xs, z0.take len0 = xs := ⟨_, rfl⟩
    rw [hxs] at h0
    have H := Lib.hid h0
    have HL := Lib.hid h0.len
    have hfit : (len0 : Int) ≤ 1048576 := by omega
    have hl4 : len0 ≤ 4611686018427387904 := by omega
    have TB : Hid (∀ W, Hid (BP w f (.slice a len0 cap0) r k x n s u W) → Calls Tryz.prog 30 #[.agg #[.int .i64 f, .slice a len0 cap0, .int .i64 r]] W (TbPost W f xs len0 r)) := Lib.hid (fun W hW => toB_any r f xs a len0 cap0 W (H.out.on hW.out.low) (by omega))
    have TP := Lib.hid (fun W => toP_any k x n s u W)
    have CS : Hid (∀ B W, Hid (BP w f (.slice a len0 cap0) r k x n s u W) → Hid (Blk W B xs) → Calls Tryz.prog 14 #[.agg #[.int .i64 f, .slice (some ⟨B, 0, none⟩) len0 len0, .int .i64 r], .agg #[.int .i64 k, .int .i64 x, .int .i64 n, .int .i64 s, .int .i64 u], .int .i64 j] W (IIPost (lvV (lvE r f xs k x n s u j) (puN r f xs k x n s j)) (lvE r f xs k x n s u j) W)) := Lib.hid (fun B W _ hk => spu_any r f xs (some ⟨B, 0, none⟩) len0 len0 k x n s u  j W (hk.out.ints HL.out (by omega)))
    have CI : Hid (∀ X B W, Hid (LX w f (.slice a len0 cap0) r k x n s u X B len0 xs W) → Calls Tryz.prog 13 #[.agg #[.int .i64 f, .slice (some ⟨B, 0, none⟩) len0 len0, .int .i64 r], .agg #[.int .i64 k, .int .i64 x, .int .i64 n, .int .i64 s, .int .i64 u], .int .i64 j] W (IIPost (lvV (lvE r f xs k x n s u j) (puN r f xs k x n s j)) (lvE r f xs k x n s u j) W)) := Lib.hid (fun X B W hk => ipu_any r f xs (some ⟨B, 0, none⟩) len0 len0 k x n s u  j W (hk.out.b.ints HL.out (by omega)) (Nat.le_refl _))
    have EQ : Hid (∀ X B C W, Hid (LX w f (.slice a len0 cap0) r k x n s u X B len0 xs W) → Hid (Blk W C xs) → Calls Tryz.prog 32 #[.agg #[.int .i64 f, .slice (some ⟨B, 0, none⟩) len0 len0, .int .i64 r], .agg #[.int .i64 f, .slice (some ⟨C, 0, none⟩) len0 len0, .int .i64 r]] W fun e w' => e = .returned (.bool true) ∧ Below W.heap.size W w') := Lib.hid (fun X B C W hk hc => eqB_same r f xs _ _ _ _ _ _ W (hk.out.b.ints HL.out (by omega)) (hc.out.ints HL.out (by omega)))
    unfold TbPost at TB
    unfold IIPost at CS CI
    obtain ⟨Z0, hZ0⟩ : ∃ y_, lvV (lvE r f xs k x n s u j) (puN r f xs k x n s j) = y_ := ⟨_, rfl⟩
    obtain ⟨Z1, hZ1⟩ : ∃ y_, lvE r f xs k x n s u j = y_ := ⟨_, rfl⟩
    rw [hZ0, hZ1] at CS CI
    clear hZ0 hZ1
    have hnn : ¬ (1048576 : Int) - len0 < 0 := by omega
    clear h0 w0 hxs hbig hmx
    go_enter Tryz.func6, Tryz.ntmps6
    go_wp2_with fail
    obtain ⟨W1, hW1⟩ : ∃ W1, ((w.alloc (.cells #[.int .i64 f, .slice a len0 cap0, .int .i64 r] 43)).alloc (.cells #[.int .i64 k, .int .i64 x, .int .i64 n, .int .i64 s, .int .i64 u] 44)) = W1 := ⟨_, rfl⟩
    rw [hW1] at HP ⊢
    clear hW1
    refine (szB_fit r f a len0 cap0 _ hfit).mono ?_
    rintro e w1 ⟨rfl, hb⟩
    have HP := Lib.hid (HP.out.on hb)
    obtain ⟨b0, b1, b2, p0, p1, p2, p3, p4, -⟩ := bpS HP.out
    clear hb
    go_wp2_with fail
    go_region_held3 (fun W9 => W9.cell? ⟨w.heap.size, 0, none⟩ = some (.int .i64 f) ∧ W9.cell? ⟨w.heap.size, 1, none⟩ = some (.slice a len0 cap0) ∧ W9.cell? ⟨w.heap.size, 2, none⟩ = some (.int .i64 r) ∧ W9.cell? ⟨w.heap.size + 1, 0, none⟩ = some (.int .i64 k) ∧ W9.cell? ⟨w.heap.size + 1, 1, none⟩ = some (.int .i64 x) ∧ W9.cell? ⟨w.heap.size + 1, 2, none⟩ = some (.int .i64 n) ∧ W9.cell? ⟨w.heap.size + 1, 3, none⟩ = some (.int .i64 s) ∧ W9.cell? ⟨w.heap.size + 1, 4, none⟩ = some (.int .i64 u) ∧ Hid (BP w f (.slice a len0 cap0) r k x n s u W9))
      (first
        | (go_split_ands; with_reducible exact bpS (Hid.out (by with_reducible assumption)))
        | (go_split_ands; with_reducible exact bpS (BP.on (Hid.out (by with_reducible assumption)) hb))
        | (go_split_ands; with_reducible exact bpS (BP.drew (Hid.out (by with_reducible assumption))))
        | fail)
      (first
        | (go_split_ands; go_at_call 30; ((with_reducible refine (TB.out _ (by with_reducible assumption)).mono ?_); rintro e w' ⟨B1, rfl, hg1, hk1, hb⟩; have HC1 := Lib.hid hk1; clear hk1 hg1))
        | (go_split_ands; go_at_call 31; ((with_reducible refine (TP.out _).mono ?_); rintro e w' ⟨rfl, hb⟩; have HC1 := Lib.hid (HC1.out.step hb)))
        | (go_split_ands; go_at_call 14; ((with_reducible refine (CS.out _ _ (by with_reducible assumption) HC1).mono ?_); rintro e w' ⟨rfl, hb⟩))
        | fail)
    all_goals
      go_split_ands
      have HQ : Hid (BP w f (.slice a len0 cap0) r k x n s u w') := by with_reducible assumption
      clear HP b0 b1 b2 p0 p1 p2 p3 p4
      have HP := HQ
      clear HQ
      obtain ⟨b0, b1, b2, p0, p1, p2, p3, p4, -⟩ := bpS HP.out
      go_wp2_with fail
      with_reducible refine (TB.out _ HP).mono ?_
      rintro e w5 ⟨B2, rfl, hg2, hk2, hb⟩
      have HX : Hid (LX w f (.slice a len0 cap0) r k x n s u w5.heap.size B2 len0 xs (w5.alloc (.cells #[.int .i64 f, .slice (some ⟨B2, 0, none⟩) len0 len0, .int .i64 r] 28))) := Lib.hid ⟨(HP.out.on hb).on (box_b _ _), Bx.new w5 _ _, hk2.step (box_b _ _)⟩
      have HP := Lib.hid (HP.out.on hb)
      clear b0 b1 b2 p0 p1 p2 p3 p4 hb hk2 hg2
      obtain ⟨b0, b1, b2, p0, p1, p2, p3, p4, -⟩ := bpS HP.out
      go_wp2_with fail
      obtain ⟨W6, hW6⟩ : ∃ y_, w5.alloc (.cells #[.int .i64 f, .slice (some ⟨B2, 0, none⟩) len0 len0, .int .i64 r] 28) = y_ := ⟨_, rfl⟩
      rw [hW6] at HX ⊢
      obtain ⟨X, hX⟩ : ∃ y_, w5.heap.size = y_ := ⟨_, rfl⟩
      rw [hX] at HX ⊢
      clear hW6 hX b0 b1 b2 p0 p1 p2 p3 p4
      obtain ⟨x0, x1, x2, p0, p1, p2, p3, p4, -⟩ := lxP HX.out
      go_region_held3 (fun W9 => W9.cell? ⟨X, 0, none⟩ = some (.int .i64 f) ∧ W9.cell? ⟨X, 1, none⟩ = some (.slice (some ⟨B2, 0, none⟩) len0 len0) ∧ W9.cell? ⟨X, 2, none⟩ = some (.int .i64 r) ∧ W9.cell? ⟨w.heap.size + 1, 0, none⟩ = some (.int .i64 k) ∧ W9.cell? ⟨w.heap.size + 1, 1, none⟩ = some (.int .i64 x) ∧ W9.cell? ⟨w.heap.size + 1, 2, none⟩ = some (.int .i64 n) ∧ W9.cell? ⟨w.heap.size + 1, 3, none⟩ = some (.int .i64 s) ∧ W9.cell? ⟨w.heap.size + 1, 4, none⟩ = some (.int .i64 u) ∧ Hid (LX w f (.slice a len0 cap0) r k x n s u X B2 len0 xs W9))
        (first
          | (go_split_ands; with_reducible exact lxP (Hid.out (by with_reducible assumption)))
          | (go_split_ands; with_reducible exact lxP (LX.on (Hid.out (by with_reducible assumption)) hb))
          | (go_split_ands; with_reducible exact lxP (LX.drew (Hid.out (by with_reducible assumption))))
          | fail)
        (first
          | (go_split_ands; go_at_call 31; ((with_reducible refine (TP.out _).mono ?_); rintro e w' ⟨rfl, hb⟩))
          | (go_split_ands; go_at_call 13; ((with_reducible refine (CI.out _ _ _ (by with_reducible assumption)).mono ?_); rintro e w' ⟨rfl, hb⟩))
          | fail)
      all_goals
        go_split_ands
        have HY : Hid (LX w f (.slice a len0 cap0) r k x n s u X B2 len0 xs w') := by with_reducible assumption
        clear HX x0 x1 x2 p0 p1 p2 p3 p4
        obtain ⟨x0, x1, x2, b0, b1, b2, -⟩ := lxB HY.out
        go_wp2_with fail
        go_region_held3 (fun W9 => W9.cell? ⟨X, 0, none⟩ = some (.int .i64 f) ∧ W9.cell? ⟨X, 1, none⟩ = some (.slice (some ⟨B2, 0, none⟩) len0 len0) ∧ W9.cell? ⟨X, 2, none⟩ = some (.int .i64 r) ∧ W9.cell? ⟨w.heap.size, 0, none⟩ = some (.int .i64 f) ∧ W9.cell? ⟨w.heap.size, 1, none⟩ = some (.slice a len0 cap0) ∧ W9.cell? ⟨w.heap.size, 2, none⟩ = some (.int .i64 r) ∧ Hid (LX w f (.slice a len0 cap0) r k x n s u X B2 len0 xs W9))
          (first
            | (go_split_ands; with_reducible exact lxB (Hid.out (by with_reducible assumption)))
            | (go_split_ands; with_reducible exact lxB (LX.on (Hid.out (by with_reducible assumption)) hb))
            | (go_split_ands; with_reducible exact lxB (LX.drew (Hid.out (by with_reducible assumption))))
            | fail)
          (first
            | (go_split_ands; go_at_call 30; ((with_reducible refine (TB.out _ (Lib.hid (LX.bp (Hid.out (by with_reducible assumption : Hid (LX w f (.slice a len0 cap0) r k x n s u X B2 len0 xs _)))))).mono ?_); rintro e w' ⟨B3, rfl, hg3, hk3, hb⟩; have HC3 := Lib.hid hk3; clear hk3 hg3))
            | (go_split_ands; go_at_call 32; ((with_reducible refine (EQ.out _ _ _ _ (by with_reducible assumption) HC3).mono ?_); rintro e w' ⟨rfl, hb⟩))
            | fail)
        all_goals
          go_split_ands
          have HZ : Hid (LX w f (.slice a len0 cap0) r k x n s u X B2 len0 xs w') := by with_reducible assumption
          go_wp2_with fail
          go_ret
          exact ⟨rfl, HZ.out.bp.low⟩

set_option maxHeartbeats 8000000 in
theorem fnExactKeptYears_walk (f : Int) (a : Option Addr) (len0 cap0 : Nat) (z0 : List Int) (r : Int) (k x n s u : Int) (j : Int) (w : World) (w0 : IsRow .i64 w a len0 cap0 z0) (w2 : (Lit.int .i64 j).wf = true) :
    Calls Tryz.prog 7 #[.agg #[.int .i64 f, .slice a len0 cap0, .int .i64 r], .agg #[.int .i64 k, .int .i64 x, .int .i64 n, .int .i64 s, .int .i64 u], .int .i64 j] w fun e w' => e = .returned (.bool true) ∧ Below w.heap.size w w' := by
  have hmx := w0.len_le
  unfold maxLen at hmx
  have HP := Lib.hid (BP.new w f (.slice a len0 cap0) r k x n s u 43 44)
  by_cases hbig : (1048576 : Int) < len0
  · go_enter Tryz.func7, Tryz.ntmps7
    go_wp2_with fail
    obtain ⟨W1, hW1⟩ : ∃ W1, ((w.alloc (.cells #[.int .i64 f, .slice a len0 cap0, .int .i64 r] 43)).alloc (.cells #[.int .i64 k, .int .i64 x, .int .i64 n, .int .i64 s, .int .i64 u] 44)) = W1 := ⟨_, rfl⟩
    rw [hW1] at HP ⊢
    clear hW1
    refine (szB_big r f a len0 cap0 _ (by omega) hbig).mono ?_
    rintro e w1 ⟨rfl, hb⟩
    have HP := Lib.hid (HP.out.on hb)
    clear hb
    go_wp2_with fail
    go_ret
    exact ⟨rfl, HP.out.low⟩
  · have h0 := w0.ints (by omega)
    obtain ⟨xs, hxs⟩ : ∃ xs, z0.take len0 = xs := ⟨_, rfl⟩
    rw [hxs] at h0
    have H := Lib.hid h0
    have HL := Lib.hid h0.len
    have hfit : (len0 : Int) ≤ 1048576 := by omega
    have hl4 : len0 ≤ 4611686018427387904 := by omega
    have TB : Hid (∀ W, Hid (BP w f (.slice a len0 cap0) r k x n s u W) → Calls Tryz.prog 30 #[.agg #[.int .i64 f, .slice a len0 cap0, .int .i64 r]] W (TbPost W f xs len0 r)) := Lib.hid (fun W hW => toB_any r f xs a len0 cap0 W (H.out.on hW.out.low) (by omega))
    have TP := Lib.hid (fun W => toP_any k x n s u W)
    have CS : Hid (∀ B W, Hid (BP w f (.slice a len0 cap0) r k x n s u W) → Hid (Blk W B xs) → Calls Tryz.prog 24 #[.agg #[.int .i64 f, .slice (some ⟨B, 0, none⟩) len0 len0, .int .i64 r], .agg #[.int .i64 k, .int .i64 x, .int .i64 n, .int .i64 s, .int .i64 u], .int .i64 j] W (IIPost (lvV (lvE r f xs k x n s u j) (kyN r f xs k x n s j)) (lvE r f xs k x n s u j) W)) := Lib.hid (fun B W _ hk => sky_any r f xs (some ⟨B, 0, none⟩) len0 len0 k x n s u  j W (hk.out.ints HL.out (by omega)))
    have CI : Hid (∀ X B W, Hid (LX w f (.slice a len0 cap0) r k x n s u X B len0 xs W) → Calls Tryz.prog 23 #[.agg #[.int .i64 f, .slice (some ⟨B, 0, none⟩) len0 len0, .int .i64 r], .agg #[.int .i64 k, .int .i64 x, .int .i64 n, .int .i64 s, .int .i64 u], .int .i64 j] W (IIPost (lvV (lvE r f xs k x n s u j) (kyN r f xs k x n s j)) (lvE r f xs k x n s u j) W)) := Lib.hid (fun X B W hk => iky_any r f xs (some ⟨B, 0, none⟩) len0 len0 k x n s u  j W (hk.out.b.ints HL.out (by omega)) (Nat.le_refl _))
    have EQ : Hid (∀ X B C W, Hid (LX w f (.slice a len0 cap0) r k x n s u X B len0 xs W) → Hid (Blk W C xs) → Calls Tryz.prog 32 #[.agg #[.int .i64 f, .slice (some ⟨B, 0, none⟩) len0 len0, .int .i64 r], .agg #[.int .i64 f, .slice (some ⟨C, 0, none⟩) len0 len0, .int .i64 r]] W fun e w' => e = .returned (.bool true) ∧ Below W.heap.size W w') := Lib.hid (fun X B C W hk hc => eqB_same r f xs _ _ _ _ _ _ W (hk.out.b.ints HL.out (by omega)) (hc.out.ints HL.out (by omega)))
    unfold TbPost at TB
    unfold IIPost at CS CI
    obtain ⟨Z0, hZ0⟩ : ∃ y_, lvV (lvE r f xs k x n s u j) (kyN r f xs k x n s j) = y_ := ⟨_, rfl⟩
    obtain ⟨Z1, hZ1⟩ : ∃ y_, lvE r f xs k x n s u j = y_ := ⟨_, rfl⟩
    rw [hZ0, hZ1] at CS CI
    clear hZ0 hZ1
    have hnn : ¬ (1048576 : Int) - len0 < 0 := by omega
    clear h0 w0 hxs hbig hmx
    go_enter Tryz.func7, Tryz.ntmps7
    go_wp2_with fail
    obtain ⟨W1, hW1⟩ : ∃ W1, ((w.alloc (.cells #[.int .i64 f, .slice a len0 cap0, .int .i64 r] 43)).alloc (.cells #[.int .i64 k, .int .i64 x, .int .i64 n, .int .i64 s, .int .i64 u] 44)) = W1 := ⟨_, rfl⟩
    rw [hW1] at HP ⊢
    clear hW1
    refine (szB_fit r f a len0 cap0 _ hfit).mono ?_
    rintro e w1 ⟨rfl, hb⟩
    have HP := Lib.hid (HP.out.on hb)
    obtain ⟨b0, b1, b2, p0, p1, p2, p3, p4, -⟩ := bpS HP.out
    clear hb
    go_wp2_with fail
    go_region_held3 (fun W9 => W9.cell? ⟨w.heap.size, 0, none⟩ = some (.int .i64 f) ∧ W9.cell? ⟨w.heap.size, 1, none⟩ = some (.slice a len0 cap0) ∧ W9.cell? ⟨w.heap.size, 2, none⟩ = some (.int .i64 r) ∧ W9.cell? ⟨w.heap.size + 1, 0, none⟩ = some (.int .i64 k) ∧ W9.cell? ⟨w.heap.size + 1, 1, none⟩ = some (.int .i64 x) ∧ W9.cell? ⟨w.heap.size + 1, 2, none⟩ = some (.int .i64 n) ∧ W9.cell? ⟨w.heap.size + 1, 3, none⟩ = some (.int .i64 s) ∧ W9.cell? ⟨w.heap.size + 1, 4, none⟩ = some (.int .i64 u) ∧ Hid (BP w f (.slice a len0 cap0) r k x n s u W9))
      (first
        | (go_split_ands; with_reducible exact bpS (Hid.out (by with_reducible assumption)))
        | (go_split_ands; with_reducible exact bpS (BP.on (Hid.out (by with_reducible assumption)) hb))
        | (go_split_ands; with_reducible exact bpS (BP.drew (Hid.out (by with_reducible assumption))))
        | fail)
      (first
        | (go_split_ands; go_at_call 30; ((with_reducible refine (TB.out _ (by with_reducible assumption)).mono ?_); rintro e w' ⟨B1, rfl, hg1, hk1, hb⟩; have HC1 := Lib.hid hk1; clear hk1 hg1))
        | (go_split_ands; go_at_call 31; ((with_reducible refine (TP.out _).mono ?_); rintro e w' ⟨rfl, hb⟩; have HC1 := Lib.hid (HC1.out.step hb)))
        | (go_split_ands; go_at_call 24; ((with_reducible refine (CS.out _ _ (by with_reducible assumption) HC1).mono ?_); rintro e w' ⟨rfl, hb⟩))
        | fail)
    all_goals
      go_split_ands
      have HQ : Hid (BP w f (.slice a len0 cap0) r k x n s u w') := by with_reducible assumption
      clear HP b0 b1 b2 p0 p1 p2 p3 p4
      have HP := HQ
      clear HQ
      obtain ⟨b0, b1, b2, p0, p1, p2, p3, p4, -⟩ := bpS HP.out
      go_wp2_with fail
      with_reducible refine (TB.out _ HP).mono ?_
      rintro e w5 ⟨B2, rfl, hg2, hk2, hb⟩
      have HX : Hid (LX w f (.slice a len0 cap0) r k x n s u w5.heap.size B2 len0 xs (w5.alloc (.cells #[.int .i64 f, .slice (some ⟨B2, 0, none⟩) len0 len0, .int .i64 r] 28))) := Lib.hid ⟨(HP.out.on hb).on (box_b _ _), Bx.new w5 _ _, hk2.step (box_b _ _)⟩
      have HP := Lib.hid (HP.out.on hb)
      clear b0 b1 b2 p0 p1 p2 p3 p4 hb hk2 hg2
      obtain ⟨b0, b1, b2, p0, p1, p2, p3, p4, -⟩ := bpS HP.out
      go_wp2_with fail
      obtain ⟨W6, hW6⟩ : ∃ y_, w5.alloc (.cells #[.int .i64 f, .slice (some ⟨B2, 0, none⟩) len0 len0, .int .i64 r] 28) = y_ := ⟨_, rfl⟩
      rw [hW6] at HX ⊢
      obtain ⟨X, hX⟩ : ∃ y_, w5.heap.size = y_ := ⟨_, rfl⟩
      rw [hX] at HX ⊢
      clear hW6 hX b0 b1 b2 p0 p1 p2 p3 p4
      obtain ⟨x0, x1, x2, p0, p1, p2, p3, p4, -⟩ := lxP HX.out
      go_region_held3 (fun W9 => W9.cell? ⟨X, 0, none⟩ = some (.int .i64 f) ∧ W9.cell? ⟨X, 1, none⟩ = some (.slice (some ⟨B2, 0, none⟩) len0 len0) ∧ W9.cell? ⟨X, 2, none⟩ = some (.int .i64 r) ∧ W9.cell? ⟨w.heap.size + 1, 0, none⟩ = some (.int .i64 k) ∧ W9.cell? ⟨w.heap.size + 1, 1, none⟩ = some (.int .i64 x) ∧ W9.cell? ⟨w.heap.size + 1, 2, none⟩ = some (.int .i64 n) ∧ W9.cell? ⟨w.heap.size + 1, 3, none⟩ = some (.int .i64 s) ∧ W9.cell? ⟨w.heap.size + 1, 4, none⟩ = some (.int .i64 u) ∧ Hid (LX w f (.slice a len0 cap0) r k x n s u X B2 len0 xs W9))
        (first
          | (go_split_ands; with_reducible exact lxP (Hid.out (by with_reducible assumption)))
          | (go_split_ands; with_reducible exact lxP (LX.on (Hid.out (by with_reducible assumption)) hb))
          | (go_split_ands; with_reducible exact lxP (LX.drew (Hid.out (by with_reducible assumption))))
          | fail)
        (first
          | (go_split_ands; go_at_call 31; ((with_reducible refine (TP.out _).mono ?_); rintro e w' ⟨rfl, hb⟩))
          | (go_split_ands; go_at_call 23; ((with_reducible refine (CI.out _ _ _ (by with_reducible assumption)).mono ?_); rintro e w' ⟨rfl, hb⟩))
          | fail)
      all_goals
        go_split_ands
        have HY : Hid (LX w f (.slice a len0 cap0) r k x n s u X B2 len0 xs w') := by with_reducible assumption
        clear HX x0 x1 x2 p0 p1 p2 p3 p4
        obtain ⟨x0, x1, x2, b0, b1, b2, -⟩ := lxB HY.out
        go_wp2_with fail
        go_region_held3 (fun W9 => W9.cell? ⟨X, 0, none⟩ = some (.int .i64 f) ∧ W9.cell? ⟨X, 1, none⟩ = some (.slice (some ⟨B2, 0, none⟩) len0 len0) ∧ W9.cell? ⟨X, 2, none⟩ = some (.int .i64 r) ∧ W9.cell? ⟨w.heap.size, 0, none⟩ = some (.int .i64 f) ∧ W9.cell? ⟨w.heap.size, 1, none⟩ = some (.slice a len0 cap0) ∧ W9.cell? ⟨w.heap.size, 2, none⟩ = some (.int .i64 r) ∧ Hid (LX w f (.slice a len0 cap0) r k x n s u X B2 len0 xs W9))
          (first
            | (go_split_ands; with_reducible exact lxB (Hid.out (by with_reducible assumption)))
            | (go_split_ands; with_reducible exact lxB (LX.on (Hid.out (by with_reducible assumption)) hb))
            | (go_split_ands; with_reducible exact lxB (LX.drew (Hid.out (by with_reducible assumption))))
            | fail)
          (first
            | (go_split_ands; go_at_call 30; ((with_reducible refine (TB.out _ (Lib.hid (LX.bp (Hid.out (by with_reducible assumption : Hid (LX w f (.slice a len0 cap0) r k x n s u X B2 len0 xs _)))))).mono ?_); rintro e w' ⟨B3, rfl, hg3, hk3, hb⟩; have HC3 := Lib.hid hk3; clear hk3 hg3))
            | (go_split_ands; go_at_call 32; ((with_reducible refine (EQ.out _ _ _ _ (by with_reducible assumption) HC3).mono ?_); rintro e w' ⟨rfl, hb⟩))
            | fail)
        all_goals
          go_split_ands
          have HZ : Hid (LX w f (.slice a len0 cap0) r k x n s u X B2 len0 xs w') := by with_reducible assumption
          go_wp2_with fail
          go_ret
          exact ⟨rfl, HZ.out.bp.low⟩

end Go.Proofs.YtdlfofdibooidaaGreat

/- The exact law on ReserveList. (Written by wip/gen/rvl.py.) -/
import Derived.Test.YtnclncglmnbelaaGreatRvi
import Derived.Test.YtnclncglmnbelaaGreatRvj
import Derived.Test.YtnclncglmnbelaaGreatPox
import Derived.Test.YtnclncglmnbelaaGreatColMT
import Derived.Deep.RegionHeld3
namespace Go.Proofs.YtnclncglmnbelaaGreat
open Go.ChangeShapes Go.WideShapes Go.ChangeAt Go.RowKit
set_option linter.unusedVariables false
set_option maxRecDepth 100000

theorem BP.butA {w : World} {f : Int} {v : Value} {r k x n s u : Int} {W W' : World} {g : Option Addr} (h : BP w f v r k x n s u W) (hb : ButA g W W') (hg : ∀ y, g = some y → w.heap.size + 2 ≤ y.block) : BP w f v r k x n s u W' := by
  have e : ∀ (i j : Nat) (z : Value), i < w.heap.size + 2 → W.cell? ⟨i, j, none⟩ = some z → W'.cell? ⟨i, j, none⟩ = some z := fun i j z hi hz => hb.cell hz (fun y hy => by have := hg y hy; simp; omega)
  exact ⟨e _ _ _ (by omega) h.b0, e _ _ _ (by omega) h.b1, e _ _ _ (by omega) h.b2, e _ _ _ (by omega) h.p0, e _ _ _ (by omega) h.p1, e _ _ _ (by omega) h.p2, e _ _ _ (by omega) h.p3, e _ _ _ (by omega) h.p4, h.low.trans (hb.low (B := w.heap.size) (fun y hy => by have := hg y hy; omega) h.low.size), Nat.le_trans h.sz hb.size⟩

theorem markB_any (f r : Int) (ys : List Int) (B n c : Nat) (q : Int) (w : World) (h : Blk w B ys) (hy : ys.length = n) (hl : n ≤ 1048576) (q0 : 0 ≤ q) (q1 : q ≤ 1099511627776) :
    Calls Tryz.prog 34 #[.agg #[.int .i64 f, .slice (some ⟨B, 0, none⟩) n c, .int .i64 r], .int .i64 q] w fun e w' => e = .returned (.int .i64 (q + n)) ∧ ButA (some ⟨B, 0, none⟩) w w' := by
  have hb1 := box_b w (.cells #[.int .i64 f, .slice (some ⟨B, 0, none⟩) n c, .int .i64 r] 28)
  have HM := Lib.hid (markTB_any f ys B n c q (w.alloc (.cells #[.int .i64 f, .slice (some ⟨B, 0, none⟩) n c, .int .i64 r] 28)) (h.step hb1) hy hl q0 q1)
  have HB := Lib.hid hb1
  clear hb1 h hy
  go_enter Tryz.func34, Tryz.ntmps34
  go_wp2_with fail
  refine HM.out.mono ?_
  rintro e w1 ⟨rfl, hb⟩
  have HB2 := Lib.hid ((belowB_butA HB.out).trans hb)
  clear hb
  go_wp2_with fail
  go_ret
  exact ⟨rfl, HB2.out⟩

set_option maxHeartbeats 8000000 in
theorem fnExactReserveList_walk (f : Int) (a : Option Addr) (len0 cap0 : Nat) (z0 : List Int) (r : Int) (k x n s u : Int) (w : World) (w0 : IsRow .i64 w a len0 cap0 z0) :
    Calls Tryz.prog 7 #[.agg #[.int .i64 f, .slice a len0 cap0, .int .i64 r], .agg #[.int .i64 k, .int .i64 x, .int .i64 n, .int .i64 s, .int .i64 u]] w fun e w' => e = .returned (.bool true) ∧ Below w.heap.size w w' := by
  have hmx := w0.len_le
  unfold maxLen at hmx
  have HP := Lib.hid (BP.new w f (.slice a len0 cap0) r k x n s u 45 46)
  by_cases hbig : (1048576 : Int) < len0
  · go_enter Tryz.func7, Tryz.ntmps7
    go_wp2_with fail
    obtain ⟨W1, hW1⟩ : ∃ W1, ((w.alloc (.cells #[.int .i64 f, .slice a len0 cap0, .int .i64 r] 45)).alloc (.cells #[.int .i64 k, .int .i64 x, .int .i64 n, .int .i64 s, .int .i64 u] 46)) = W1 := ⟨_, rfl⟩
    rw [hW1] at HP ⊢
    clear hW1
    refine (szB_big r f a len0 cap0 _ (by omega) hbig).mono ?_
    rintro e w1 ⟨rfl, hb⟩
    have HP := Lib.hid (HP.out.on hb)
    clear hb
    go_wp2_with fail
    go_ret
    exact ⟨rfl, HP.out.low⟩
  · have h0 := w0.ints (by omega)
    obtain ⟨xs, hxs⟩ : ∃ xs, z0.take len0 = xs := ⟨_, rfl⟩
    rw [hxs] at h0
    have H := Lib.hid h0
    have HL := Lib.hid h0.len
    have hfit : (len0 : Int) ≤ 1048576 := by omega
    have hl4 : len0 ≤ 4611686018427387904 := by omega
    have TB : Hid (∀ W, Hid (BP w f (.slice a len0 cap0) r k x n s u W) → Calls Tryz.prog 26 #[.agg #[.int .i64 f, .slice a len0 cap0, .int .i64 r]] W (TbPost W f xs len0 r)) := Lib.hid (fun W hW => toB_any r f xs a len0 cap0 W (H.out.on hW.out.low) (by omega))
    have TP := Lib.hid (fun W => toP_any k x n s u W)
    have CS : Hid (∀ B W, Hid (BP w f (.slice a len0 cap0) r k x n s u W) → Hid (Blk W B xs) → Calls Tryz.prog 13 #[.agg #[.int .i64 f, .slice (some ⟨B, 0, none⟩) len0 len0, .int .i64 r], .agg #[.int .i64 k, .int .i64 x, .int .i64 n, .int .i64 s, .int .i64 u]] W (LsPost (rlY r f xs k x n s u) (rlE r f xs k x n s u) W)) := Lib.hid (fun B W _ hk => srl_any r f xs (some ⟨B, 0, none⟩) len0 len0 k x n s u W (hk.out.ints HL.out (by omega)))
    have CI : Hid (∀ X B W, Hid (LX w f (.slice a len0 cap0) r k x n s u X B len0 xs W) → Calls Tryz.prog 12 #[.agg #[.int .i64 f, .slice (some ⟨B, 0, none⟩) len0 len0, .int .i64 r], .agg #[.int .i64 k, .int .i64 x, .int .i64 n, .int .i64 s, .int .i64 u]] W (LsPost (rlY r f xs k x n s u) (rlE r f xs k x n s u) W)) := Lib.hid (fun X B W hk => irl_any r f xs (some ⟨B, 0, none⟩) len0 len0 k x n s u W (hk.out.b.ints HL.out (by omega)) (Nat.le_refl _))
    have CI2 : Hid (∀ B W, Hid (BP w f (.slice a len0 cap0) r k x n s u W) → Hid (Blk W B xs) → Calls Tryz.prog 12 #[.agg #[.int .i64 f, .slice (some ⟨B, 0, none⟩) len0 len0, .int .i64 r], .agg #[.int .i64 k, .int .i64 x, .int .i64 n, .int .i64 s, .int .i64 u]] W (LsPost (rlY r f xs k x n s u) (rlE r f xs k x n s u) W)) := Lib.hid (fun B W _ hk => irl_any r f xs (some ⟨B, 0, none⟩) len0 len0 k x n s u W (hk.out.ints HL.out (by omega)) (Nat.le_refl _))
    have EQ : Hid (∀ X B C W, Hid (LX w f (.slice a len0 cap0) r k x n s u X B len0 xs W) → Hid (Blk W C xs) → Calls Tryz.prog 28 #[.agg #[.int .i64 f, .slice (some ⟨B, 0, none⟩) len0 len0, .int .i64 r], .agg #[.int .i64 f, .slice (some ⟨C, 0, none⟩) len0 len0, .int .i64 r]] W fun e w' => e = .returned (.bool true) ∧ Below W.heap.size W w') := Lib.hid (fun X B C W hk hc => eqB_same r f xs _ _ _ _ _ _ W (hk.out.b.ints HL.out (by omega)) (hc.out.ints HL.out (by omega)))
    unfold TbPost at TB
    obtain ⟨Y, hY⟩ : ∃ y_, rlY r f xs k x n s u = y_ := ⟨_, rfl⟩
    obtain ⟨E, hE⟩ : ∃ y_, rlE r f xs k x n s u = y_ := ⟨_, rfl⟩
    rw [hY, hE] at CS CI CI2
    unfold LsPost at CS CI CI2
    have hnn : ¬ (1048576 : Int) - len0 < 0 := by omega
    clear h0 w0 hxs hbig hmx hY hE
    go_enter Tryz.func7, Tryz.ntmps7
    go_wp2_with fail
    obtain ⟨W1, hW1⟩ : ∃ W1, ((w.alloc (.cells #[.int .i64 f, .slice a len0 cap0, .int .i64 r] 45)).alloc (.cells #[.int .i64 k, .int .i64 x, .int .i64 n, .int .i64 s, .int .i64 u] 46)) = W1 := ⟨_, rfl⟩
    rw [hW1] at HP ⊢
    clear hW1
    refine (szB_fit r f a len0 cap0 _ hfit).mono ?_
    rintro e w1 ⟨rfl, hb⟩
    have HP := Lib.hid (HP.out.on hb)
    obtain ⟨b0, b1, b2, p0, p1, p2, p3, p4, -⟩ := bpS HP.out
    clear hb
    go_wp2_with fail
    go_region_held3 (fun W9 => W9.cell? ⟨w.heap.size, 0, none⟩ = some (.int .i64 f) ∧ W9.cell? ⟨w.heap.size, 1, none⟩ = some (.slice a len0 cap0) ∧ W9.cell? ⟨w.heap.size, 2, none⟩ = some (.int .i64 r) ∧ W9.cell? ⟨w.heap.size + 1, 0, none⟩ = some (.int .i64 k) ∧ W9.cell? ⟨w.heap.size + 1, 1, none⟩ = some (.int .i64 x) ∧ W9.cell? ⟨w.heap.size + 1, 2, none⟩ = some (.int .i64 n) ∧ W9.cell? ⟨w.heap.size + 1, 3, none⟩ = some (.int .i64 s) ∧ W9.cell? ⟨w.heap.size + 1, 4, none⟩ = some (.int .i64 u) ∧ Hid (BP w f (.slice a len0 cap0) r k x n s u W9))
      (first
        | (go_split_ands; with_reducible exact bpS (Hid.out (by with_reducible assumption)))
        | (go_split_ands; with_reducible exact bpS (BP.on (Hid.out (by with_reducible assumption)) hb))
        | (go_split_ands; with_reducible exact bpS (BP.drew (Hid.out (by with_reducible assumption))))
        | fail)
      (first
        | (go_split_ands; go_at_call 26; ((with_reducible refine (TB.out _ (by with_reducible assumption)).mono ?_); rintro e w' ⟨B1, rfl, hg1, hk1, hb⟩; have HC1 := Lib.hid hk1; clear hk1 hg1))
        | (go_split_ands; go_at_call 27; ((with_reducible refine (TP.out _).mono ?_); rintro e w' ⟨rfl, hb⟩; have HC1 := Lib.hid (HC1.out.step hb)))
        | (go_split_ands; go_at_call 13; ((with_reducible refine (CS.out _ _ (by with_reducible assumption) HC1).mono ?_); rintro e w' ⟨sa, sn, sc, rfl, hT, hb⟩; have HS3 := Lib.hid hT.ints; have HSA := Lib.hid hT.far; clear hT))
        | fail)
    all_goals
      go_split_ands
      have HQ : Hid (BP w f (.slice a len0 cap0) r k x n s u w') := by with_reducible assumption
      clear HP b0 b1 b2 p0 p1 p2 p3 p4
      have HP := HQ
      clear HQ
      obtain ⟨b0, b1, b2, p0, p1, p2, p3, p4, -⟩ := bpS HP.out
      go_wp2_with fail
      with_reducible refine (TB.out _ HP).mono ?_
      rintro e w5 ⟨B2, rfl, hg2, hk2, hb⟩
      have hB2 := hk2.lt
      have HG2 := Lib.hid (show w'.heap.size ≤ B2 from hg2)
      have HW2 := Lib.hid (show w.heap.size + 2 ≤ B2 from Nat.le_trans HP.out.sz hg2)
      have HS5 := Lib.hid ((HS3.out.step hb).step (box_b w5 (.cells #[.int .i64 f, .slice (some ⟨B2, 0, none⟩) len0 len0, .int .i64 r] 28)))
      have HX : Hid (LX w f (.slice a len0 cap0) r k x n s u w5.heap.size B2 len0 xs (w5.alloc (.cells #[.int .i64 f, .slice (some ⟨B2, 0, none⟩) len0 len0, .int .i64 r] 28))) := Lib.hid ⟨(HP.out.on hb).on (box_b _ _), Bx.new w5 _ _, hk2.step (box_b _ _)⟩
      have HP := Lib.hid (HP.out.on hb)
      have hN : w5.heap.size + 1 = (w5.alloc (.cells #[.int .i64 f, .slice (some ⟨B2, 0, none⟩) len0 len0, .int .i64 r] 28)).heap.size := by simp
      clear b0 b1 b2 p0 p1 p2 p3 p4 hb hk2 hg2 HS3
      obtain ⟨b0, b1, b2, p0, p1, p2, p3, p4, -⟩ := bpS HP.out
      go_wp2_with fail
      obtain ⟨W6, hW6⟩ : ∃ y_, w5.alloc (.cells #[.int .i64 f, .slice (some ⟨B2, 0, none⟩) len0 len0, .int .i64 r] 28) = y_ := ⟨_, rfl⟩
      rw [hW6] at HX HS5 hN ⊢
      obtain ⟨X, hX⟩ : ∃ y_, w5.heap.size = y_ := ⟨_, rfl⟩
      rw [hX] at HX hN hB2 ⊢
      clear hW6 hX b0 b1 b2 p0 p1 p2 p3 p4
      obtain ⟨x0, x1, x2, p0, p1, p2, p3, p4, -⟩ := lxP HX.out
      obtain ⟨N, hNN⟩ : ∃ y_, W6.heap.size = y_ := ⟨_, rfl⟩
      have hsz : N ≤ W6.drew.heap.size := Nat.le_of_eq hNN.symm
      have HSN := Lib.hid (show B2 < N by omega)
      have HS5 := Lib.hid (HS5.out.step (Below.drew (Below.refl _ _)))
      clear hNN hB2 hN
      go_region_held3 (fun W9 => W9.cell? ⟨X, 0, none⟩ = some (.int .i64 f) ∧ W9.cell? ⟨X, 1, none⟩ = some (.slice (some ⟨B2, 0, none⟩) len0 len0) ∧ W9.cell? ⟨X, 2, none⟩ = some (.int .i64 r) ∧ W9.cell? ⟨w.heap.size + 1, 0, none⟩ = some (.int .i64 k) ∧ W9.cell? ⟨w.heap.size + 1, 1, none⟩ = some (.int .i64 x) ∧ W9.cell? ⟨w.heap.size + 1, 2, none⟩ = some (.int .i64 n) ∧ W9.cell? ⟨w.heap.size + 1, 3, none⟩ = some (.int .i64 s) ∧ W9.cell? ⟨w.heap.size + 1, 4, none⟩ = some (.int .i64 u) ∧ Hid (LX w f (.slice a len0 cap0) r k x n s u X B2 len0 xs W9))
        (first
          | (go_split_ands; with_reducible exact lxP (Hid.out (by with_reducible assumption)))
          | (go_split_ands; with_reducible exact lxP (LX.on (Hid.out (by with_reducible assumption)) hb))
          | (go_split_ands; with_reducible exact lxP (LX.drew (Hid.out (by with_reducible assumption))))
          | fail)
        (first
          | (go_split_ands; go_at_call 27; ((with_reducible refine (TP.out _).mono ?_); rintro e w' ⟨rfl, hb⟩; have HS5 := Lib.hid (HS5.out.step hb); have hsz := Nat.le_trans hsz hb.size))
          | (go_split_ands; go_at_call 12; ((with_reducible refine (CI.out _ _ _ (by with_reducible assumption)).mono ?_); rintro e w' ⟨ga, gn, gc, rfl, hT, hb⟩; have HS5 := Lib.hid (HS5.out.step hb); have HG5 := Lib.hid (hT.mono hsz); have hgn : gn ≤ 4096 := hT.2.1; clear hT))
          | fail)
      all_goals
        go_split_ands
        have HY : Hid (LX w f (.slice a len0 cap0) r k x n s u X B2 len0 xs w') := by with_reducible assumption
        have HGA := Lib.hid (fun y hy => (HG5.out.far y hy).1)
        clear HX x0 x1 x2 p0 p1 p2 p3 p4 hsz
        go_wp2_with fail
        refine (eqS_any Y Y _ _ _ _ _ _ _ HG5.out.ints HS5.out).mono ?_
        rintro e w6 ⟨rfl, n6, rfl⟩
        have HY := Lib.hid (HY.out.on (below_drewN (Below.refl _ _) n6))
        have HS6 := Lib.hid (HS5.out.drewN n6)
        have HG6 := Lib.hid (HG5.out.on (below_drewN (Below.refl _ _) n6))
        obtain ⟨w6, hw6⟩ : ∃ y_, y_ = w'.drewN n6 := ⟨_, rfl⟩
        rw [← hw6] at HY HS6 HG6 ⊢
        clear hw6 HS5 HG5
        obtain ⟨x0, x1, x2, b0, b1, b2, -⟩ := lxB HY.out
        have HS6 := Lib.hid (HS6.out.step (Below.drew (Below.refl _ _)))
        have HG6 := Lib.hid (HG6.out.on (Below.drew (Below.refl _ _)))
        go_wp2_with fail
        go_region_held3 (fun W9 => W9.cell? ⟨X, 0, none⟩ = some (.int .i64 f) ∧ W9.cell? ⟨X, 1, none⟩ = some (.slice (some ⟨B2, 0, none⟩) len0 len0) ∧ W9.cell? ⟨X, 2, none⟩ = some (.int .i64 r) ∧ W9.cell? ⟨w.heap.size, 0, none⟩ = some (.int .i64 f) ∧ W9.cell? ⟨w.heap.size, 1, none⟩ = some (.slice a len0 cap0) ∧ W9.cell? ⟨w.heap.size, 2, none⟩ = some (.int .i64 r) ∧ Hid (LX w f (.slice a len0 cap0) r k x n s u X B2 len0 xs W9))
          (first
            | (go_split_ands; with_reducible exact lxB (Hid.out (by with_reducible assumption)))
            | (go_split_ands; with_reducible exact lxB (LX.on (Hid.out (by with_reducible assumption)) hb))
            | (go_split_ands; with_reducible exact lxB (LX.drew (Hid.out (by with_reducible assumption))))
            | fail)
          (first
            | (go_split_ands; go_at_call 26; ((with_reducible refine (TB.out _ (Lib.hid (LX.bp (Hid.out (by with_reducible assumption : Hid (LX w f (.slice a len0 cap0) r k x n s u X B2 len0 xs _)))))).mono ?_); rintro e w' ⟨B3, rfl, hg3, hk3, hb⟩; have HC3 := Lib.hid hk3; have HS6 := Lib.hid (HS6.out.step hb); have HG6 := Lib.hid (HG6.out.on hb); clear hk3 hg3))
            | (go_split_ands; go_at_call 28; ((with_reducible refine (EQ.out _ _ _ _ (by with_reducible assumption) HC3).mono ?_); rintro e w' ⟨rfl, hb⟩; have HS6 := Lib.hid (HS6.out.step hb); have HG6 := Lib.hid (HG6.out.on hb)))
            | fail)
        all_goals
          go_split_ands
          have HZ : Hid (LX w f (.slice a len0 cap0) r k x n s u X B2 len0 xs w') := by with_reducible assumption
          clear HY x0 x1 x2 b0 b1 b2
          obtain ⟨x0, x1, x2, b0, b1, b2, -⟩ := lxB HZ.out
          go_wp2_with fail
          refine (markB_any f r xs B2 len0 len0 1 _ HZ.out.b HL.out (by omega) (by omega) (by omega)).mono ?_
          rintro e w8 ⟨rfl, hbut⟩
          have HP8 := Lib.hid (HZ.out.bp.butA hbut (fun y hy => by cases hy; exact HW2.out))
          have HS8 := Lib.hid (HS6.out.butA hbut (fun y z hy hz => by cases hz; have h1 := (HSA.out y hy).2; have h2 := HG2.out; simp; omega))
          have HG8 := Lib.hid (tbr_butA HG6.out hbut (fun y z hy hz => by cases hz; have h1 := HGA.out y hy; have h2 := HSN.out; simp; omega))
          clear hbut x0 x1 x2 b0 b1 b2 HZ HS6 HG6
          go_wp2_with fail
          refine (eqS_any Y Y _ _ _ _ _ _ _ HG8.out.ints HS8.out).mono ?_
          rintro e w9 ⟨rfl, n9, rfl⟩
          have HP9 := Lib.hid (HP8.out.on (below_drewN (Below.refl _ _) n9))
          have HS9 := Lib.hid (HS8.out.drewN n9)
          have HG9 := Lib.hid (HG8.out.on (below_drewN (Below.refl _ _) n9))
          obtain ⟨w9, hw9⟩ : ∃ y_, y_ = w8.drewN n9 := ⟨_, rfl⟩
          rw [← hw9] at HP9 HS9 HG9 ⊢
          clear hw9 HP8 HS8 HG8
          go_wp2_with fail
          refine (markI_any Y _ _ _ _ 1 _ HG9.out (by omega) (by omega)).mono ?_
          rintro e w10 ⟨rfl, hT, hbut⟩
          have HP10 := Lib.hid (HP9.out.butA hbut (fun y hy => by have h1 := HGA.out y hy; have h2 := HSN.out; have h3 := HW2.out; omega))
          have HS10 := Lib.hid (HS9.out.butA hbut (fun y z hy hz => by have h1 := (HSA.out y hy).2; have h2 := HGA.out z hz; have h3 := HSN.out; have h4 := HG2.out; omega))
          have HG10 := Lib.hid hT
          clear hT hbut HP9 HS9 HG9
          go_wp2_with (go_at_call 36; refine (held_any _ _ _ _ _ HG10.out.ints (by omega) (by omega) (by omega)).mono ?_; rintro e w' ⟨rfl, rfl⟩)
          obtain ⟨b0, b1, b2, p0, p1, p2, p3, p4, -⟩ := bpS HP10.out
          have HS10 := Lib.hid (HS10.out.step (Below.drew (Below.refl _ _)))
          have HG10 := Lib.hid (HG10.out.on (Below.drew (Below.refl _ _)))
          go_wp2_with fail
          go_region_held3 (fun W9 => W9.cell? ⟨w.heap.size, 0, none⟩ = some (.int .i64 f) ∧ W9.cell? ⟨w.heap.size, 1, none⟩ = some (.slice a len0 cap0) ∧ W9.cell? ⟨w.heap.size, 2, none⟩ = some (.int .i64 r) ∧ W9.cell? ⟨w.heap.size + 1, 0, none⟩ = some (.int .i64 k) ∧ W9.cell? ⟨w.heap.size + 1, 1, none⟩ = some (.int .i64 x) ∧ W9.cell? ⟨w.heap.size + 1, 2, none⟩ = some (.int .i64 n) ∧ W9.cell? ⟨w.heap.size + 1, 3, none⟩ = some (.int .i64 s) ∧ W9.cell? ⟨w.heap.size + 1, 4, none⟩ = some (.int .i64 u) ∧ Hid (BP w f (.slice a len0 cap0) r k x n s u W9))
            (first
              | (go_split_ands; with_reducible exact bpS (Hid.out (by with_reducible assumption)))
              | (go_split_ands; with_reducible exact bpS (BP.on (Hid.out (by with_reducible assumption)) hb))
              | (go_split_ands; with_reducible exact bpS (BP.drew (Hid.out (by with_reducible assumption))))
              | fail)
            (first
              | (go_split_ands; go_at_call 26; ((with_reducible refine (TB.out _ (by with_reducible assumption)).mono ?_); rintro e w' ⟨B4, rfl, hg4, hk4, hb⟩; have HC4 := Lib.hid hk4; have HS10 := Lib.hid (HS10.out.step hb); have HG10 := Lib.hid (HG10.out.on hb); clear hk4 hg4))
              | (go_split_ands; go_at_call 27; ((with_reducible refine (TP.out _).mono ?_); rintro e w' ⟨rfl, hb⟩; have HC4 := Lib.hid (HC4.out.step hb); have HS10 := Lib.hid (HS10.out.step hb); have HG10 := Lib.hid (HG10.out.on hb)))
              | (go_split_ands; go_at_call 12; ((with_reducible refine (CI2.out _ _ (by with_reducible assumption) HC4).mono ?_); rintro e w' ⟨ha, hn, hc, rfl, hT, hb⟩; have HH := Lib.hid hT.ints; have HS10 := Lib.hid (HS10.out.step hb); have HG10 := Lib.hid (HG10.out.on hb); clear hT))
              | fail)
          all_goals
            go_split_ands
            have HQ : Hid (BP w f (.slice a len0 cap0) r k x n s u w') := by with_reducible assumption
            clear HP10 b0 b1 b2 p0 p1 p2 p3 p4
            go_wp2_with fail
            refine (eqS_any Y Y _ _ _ _ _ _ _ HH.out HS10.out).mono ?_
            rintro e w13 ⟨rfl, n13, rfl⟩
            have HB13 := Lib.hid (HQ.out.on (below_drewN (Below.refl _ _) n13))
            have HG13 := Lib.hid (HG10.out.on (below_drewN (Below.refl _ _) n13))
            obtain ⟨w13, hw13⟩ : ∃ y_, y_ = w'.drewN n13 := ⟨_, rfl⟩
            rw [← hw13] at HB13 HG13 ⊢
            clear hw13
            go_wp2_with (go_at_call 36; refine (held_any _ _ _ _ _ HG13.out.ints (by omega) (by omega) (by omega)).mono ?_; rintro e w' ⟨rfl, rfl⟩)
            go_ret
            exact ⟨rfl, HB13.out.low⟩

end Go.Proofs.YtnclncglmnbelaaGreat

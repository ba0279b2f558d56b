/- Families: the exact laws on a family and numbers. (Written by wip/gen/fmy.py.) -/
import Derived.Test.YtmnddplkmljeaaaFml
import Derived.Test.YtmnddplkmljeaaaFmh
import Derived.Test.YtmnddplkmljeaaaFmw
import Derived.Deep.RegionHeld3
namespace Go.Proofs.Ytmnddplkmljeaaa
open Go.ChangeShapes Go.WideShapes Go.ChangeAt Go.RowKit
set_option linter.unusedVariables false
set_option maxRecDepth 100000

theorem lwF2 {w W : World} {X Y : Nat} {x0 x1 x2 x3 x4 y0 y1 y2 y3 y4 : Value} {bs : List (Nat × List Value)} {ls : List (Option Addr × Nat × List Int)} (h : LW w ((X, [x0, x1, x2, x3, x4]) :: (Y, [y0, y1, y2, y3, y4]) :: bs) ls W) :
    W.cell? ⟨X, 0, none⟩ = some x0 ∧ W.cell? ⟨X, 1, none⟩ = some x1 ∧ W.cell? ⟨X, 2, none⟩ = some x2 ∧ W.cell? ⟨X, 3, none⟩ = some x3 ∧ W.cell? ⟨X, 4, none⟩ = some x4 ∧ W.cell? ⟨Y, 0, none⟩ = some y0 ∧ W.cell? ⟨Y, 1, none⟩ = some y1 ∧ W.cell? ⟨Y, 2, none⟩ = some y2 ∧ W.cell? ⟨Y, 3, none⟩ = some y3 ∧ W.cell? ⟨Y, 4, none⟩ = some y4 ∧ Hid (LW w ((X, [x0, x1, x2, x3, x4]) :: (Y, [y0, y1, y2, y3, y4]) :: bs) ls W) := by
  obtain ⟨a0, a1, a2, a3, a4⟩ := h.c5 (.head _)
  obtain ⟨b0, b1, b2, b3, b4⟩ := h.c5 (.tail _ (.head _))
  exact ⟨a0, a1, a2, a3, a4, b0, b1, b2, b3, b4, Lib.hid h⟩

set_option maxHeartbeats 1000000 in
theorem fnExactIsFamily_walk (d m v l : Int) (a0 : Option Addr) (len0 cap0 : Nat) (z0 : List Int) (w : World) (w0 : IsRow .i64 w a0 len0 cap0 z0) :
    Calls Try.prog 5 #[.agg #[.int .i64 d, .int .i64 m, .int .i64 v, .int .i64 l, .slice a0 len0 cap0]] w fun e w' => e = .returned (.bool true) ∧ Below w.heap.size w w' := by
  have hmx := w0.len_le
  unfold maxLen at hmx
  by_cases hbig : (1048576 : Int) < len0
  · go_enter Try.func5, Try.ntmps5
    go_wp2_with fail
    refine (szF_big _ _ _ _ _ _ _ _ _ (by omega) (by omega) (by omega) hbig).mono ?_
    rintro e w1 ⟨rfl, hb⟩
    have HB := Lib.hid ((box_b w (.cells #[.int .i64 d, .int .i64 m, .int .i64 v, .int .i64 l, .slice a0 len0 cap0] 48)).trans (hb.mono (by simp)))
    clear hb
    go_wp2_with fail
    go_ret
    exact ⟨rfl, HB.out⟩
  · have h0 := w0.ints (by omega)
    obtain ⟨ch, hch⟩ : ∃ xs, z0.take len0 = xs := ⟨_, rfl⟩
    rw [hch] at h0
    have H := Lib.hid h0
    have HL0 := Lib.hid h0.len
    have hl1 : len0 ≤ 1048576 := by omega
    have hfit : (len0 : Int) ≤ 1048576 := by omega
    have hp : ¬ (1048576 : Int) - len0 < 0 := by omega
    have L0 := (LW.start w).box [.int .i64 d, .int .i64 m, .int .i64 v, .int .i64 l, .slice a0 len0 cap0] 48
    obtain ⟨c0, c1, c2, c3, c4⟩ := L0.c5 (.head _)
    have HL := Lib.hid L0
    have CS : Hid (∀ W B1, Hid (Ints W (some ⟨B1, 0, none⟩) len0 ch) → Calls Try.prog 27 #[.agg #[.int .i64 d, .int .i64 m, .int .i64 v, .int .i64 l, .slice (some ⟨B1, 0, none⟩) len0 len0]] W fun e w' => e = .returned (.bool (fmB d m v l ch)) ∧ Below W.heap.size W w') := Lib.hid (fun W B1 hW => sfm_any d m v l ch _ _ _ W hW.out)
    have CI : Hid (∀ W B1, Hid (Ints W (some ⟨B1, 0, none⟩) len0 ch) → Calls Try.prog 26 #[.agg #[.int .i64 d, .int .i64 m, .int .i64 v, .int .i64 l, .slice (some ⟨B1, 0, none⟩) len0 len0]] W fun e w' => e = .returned (.bool (fmB d m v l ch)) ∧ Below W.heap.size W w') := Lib.hid (fun W B1 hW => ifm_any d m v l ch _ _ _ W hW.out)
    have CT : Hid (∀ W, Hid (Below w.heap.size w W) → Calls Try.prog 41 #[.agg #[.int .i64 d, .int .i64 m, .int .i64 v, .int .i64 l, .slice a0 len0 cap0]] W (TfPost d m v l ch len0 W)) := Lib.hid (fun W hW => toF_any d m v l ch _ _ _ W (H.out.on hW.out) hl1)
    unfold TfPost at CT
    obtain ⟨V, hV⟩ : ∃ y_, fmB d m v l ch = y_ := ⟨_, rfl⟩
    rw [hV] at CS CI
    clear hV
    clear h0 w0 hch hbig hmx L0
    go_enter Try.func5, Try.ntmps5
    go_wp2_with fail
    refine (szF_fit _ _ _ _ _ _ _ _ _ (by omega) (by omega) hfit).mono ?_
    rintro e w1 ⟨rfl, hb⟩
    have HL := Lib.hid (HL.out.on hb)
    obtain ⟨c0, c1, c2, c3, c4⟩ := HL.out.c5 (.head _)
    clear hb
    go_wp2_with fail
    refine (CT.out _ (Lib.hid HL.out.low)).mono ?_
    rintro e w2 ⟨B1, rfl, t1, hb⟩
    have HL := Lib.hid (HL.out.on hb)
    have T1 := Lib.hid t1.ints
    obtain ⟨c0, c1, c2, c3, c4⟩ := HL.out.c5 (.head _)
    clear hb t1
    go_wp2_with fail
    refine (CS.out _ _ T1).mono ?_
    rintro e w3 ⟨rfl, hb⟩
    have HL := Lib.hid (HL.out.on hb)
    obtain ⟨c0, c1, c2, c3, c4⟩ := HL.out.c5 (.head _)
    clear hb T1
    go_wp2_with fail
    refine (CT.out _ (Lib.hid HL.out.low)).mono ?_
    rintro e w4 ⟨B2, rfl, t1, hb⟩
    have HL := Lib.hid ((HL.out.add hb t1).box [.int .i64 d, .int .i64 m, .int .i64 v, .int .i64 l, .slice (some ⟨B2, 0, none⟩) len0 len0] 26)
    obtain ⟨x0, x1, x2, x3, x4⟩ := HL.out.c5 (.head _)
    obtain ⟨c0, c1, c2, c3, c4⟩ := HL.out.c5 (.tail _ (.head _))
    have T2 := Lib.hid (HL.out.tl _ (.head _)).ints
    clear hb t1
    go_wp2_with fail
    refine (CI.out _ _ T2).mono ?_
    rintro e w5 ⟨rfl, hb⟩
    have HL := Lib.hid (HL.out.on hb)
    obtain ⟨X, hX⟩ : ∃ y_, w4.heap.size = y_ := ⟨_, rfl⟩
    rw [hX] at HL
    obtain ⟨x0, x1, x2, x3, x4⟩ := HL.out.c5 (.head _)
    obtain ⟨c0, c1, c2, c3, c4⟩ := HL.out.c5 (.tail _ (.head _))
    clear hb CI T2
    go_wp2_with fail
    (try rw [hX])
    clear hX
    have HXS : Hid (∀ W, Hid (LW w [(X, [.int .i64 d, .int .i64 m, .int .i64 v, .int .i64 l, .slice (some ⟨B2, 0, none⟩) len0 len0]), (w.heap.size, [.int .i64 d, .int .i64 m, .int .i64 v, .int .i64 l, .slice a0 len0 cap0])] [(some ⟨B2, 0, none⟩, len0, ch)] W) → Calls Try.prog 41 #[.agg #[.int .i64 d, .int .i64 m, .int .i64 v, .int .i64 l, .slice a0 len0 cap0]] W (TfPost d m v l ch len0 W)) := Lib.hid (fun W hW => toF_any d m v l ch _ _ _ W (H.out.on hW.out.low) hl1)
    have HEQ : Hid (∀ W B3, Hid (LW w [(X, [.int .i64 d, .int .i64 m, .int .i64 v, .int .i64 l, .slice (some ⟨B2, 0, none⟩) len0 len0]), (w.heap.size, [.int .i64 d, .int .i64 m, .int .i64 v, .int .i64 l, .slice a0 len0 cap0])] [(some ⟨B2, 0, none⟩, len0, ch)] W) → Hid (Ints W (some ⟨B3, 0, none⟩) len0 ch) → Calls Try.prog 42 #[.agg #[.int .i64 d, .int .i64 m, .int .i64 v, .int .i64 l, .slice (some ⟨B2, 0, none⟩) len0 len0], .agg #[.int .i64 d, .int .i64 m, .int .i64 v, .int .i64 l, .slice (some ⟨B3, 0, none⟩) len0 len0]] W fun e w' => e = .returned (.bool true) ∧ Below W.heap.size W w') := Lib.hid (fun W B3 hW h3 => eqF_same d m v l ch _ _ _ _ _ _ W (hW.out.tl _ (.head _)).ints h3.out)
    unfold TfPost at HXS
    go_region_held3 (fun W9 => W9.cell? ⟨X, 0, none⟩ = some (.int .i64 d) ∧ W9.cell? ⟨X, 1, none⟩ = some (.int .i64 m) ∧ W9.cell? ⟨X, 2, none⟩ = some (.int .i64 v) ∧ W9.cell? ⟨X, 3, none⟩ = some (.int .i64 l) ∧ W9.cell? ⟨X, 4, none⟩ = some (.slice (some ⟨B2, 0, none⟩) len0 len0) ∧ W9.cell? ⟨w.heap.size, 0, none⟩ = some (.int .i64 d) ∧ W9.cell? ⟨w.heap.size, 1, none⟩ = some (.int .i64 m) ∧ W9.cell? ⟨w.heap.size, 2, none⟩ = some (.int .i64 v) ∧ W9.cell? ⟨w.heap.size, 3, none⟩ = some (.int .i64 l) ∧ W9.cell? ⟨w.heap.size, 4, none⟩ = some (.slice a0 len0 cap0) ∧ Hid (LW w [(X, [.int .i64 d, .int .i64 m, .int .i64 v, .int .i64 l, .slice (some ⟨B2, 0, none⟩) len0 len0]), (w.heap.size, [.int .i64 d, .int .i64 m, .int .i64 v, .int .i64 l, .slice a0 len0 cap0])] [(some ⟨B2, 0, none⟩, len0, ch)] W9))
      (first
        | (go_split_ands; with_reducible exact lwF2 (Hid.out (by with_reducible assumption)))
        | (go_split_ands; with_reducible exact lwF2 (LW.on (Hid.out (by with_reducible assumption)) hb))
        | (go_split_ands; with_reducible exact lwF2 (LW.drew (Hid.out (by with_reducible assumption))))
        | fail)
      (first
        | (go_split_ands; go_at_call 41; ((with_reducible refine (HXS.out _ (by with_reducible assumption)).mono ?_); rintro e w' ⟨B3, rfl, t3, hb⟩; have HT3 := Lib.hid t3.ints; clear t3))
        | (go_split_ands; go_at_call 42; ((with_reducible refine (HEQ.out _ _ (by with_reducible assumption) (by with_reducible assumption)).mono ?_); rintro e w' ⟨rfl, hb⟩))
        | fail)
    all_goals
      go_split_ands
      have HLF : Hid (LW w [(X, [.int .i64 d, .int .i64 m, .int .i64 v, .int .i64 l, .slice (some ⟨B2, 0, none⟩) len0 len0]), (w.heap.size, [.int .i64 d, .int .i64 m, .int .i64 v, .int .i64 l, .slice a0 len0 cap0])] [(some ⟨B2, 0, none⟩, len0, ch)] w') := by with_reducible assumption
      go_wp2_with fail
      go_ret
      exact ⟨rfl, HLF.out.low⟩

set_option maxHeartbeats 1000000 in
theorem fnExactGetsWidow_walk (d m v l : Int) (a0 : Option Addr) (len0 cap0 : Nat) (z0 : List Int) (a1 : Int) (w : World) (w0 : IsRow .i64 w a0 len0 cap0 z0) (w1 : (Lit.int .i64 a1).wf = true) :
    Calls Try.prog 6 #[.agg #[.int .i64 d, .int .i64 m, .int .i64 v, .int .i64 l, .slice a0 len0 cap0], .int .i64 a1] w fun e w' => e = .returned (.bool true) ∧ Below w.heap.size w w' := by
  have hmx := w0.len_le
  unfold maxLen at hmx
  by_cases hbig : (1048576 : Int) < len0
  · go_enter Try.func6, Try.ntmps6
    go_wp2_with fail
    refine (szF_big _ _ _ _ _ _ _ _ _ (by omega) (by omega) (by omega) hbig).mono ?_
    rintro e w1 ⟨rfl, hb⟩
    have HB := Lib.hid ((box_b w (.cells #[.int .i64 d, .int .i64 m, .int .i64 v, .int .i64 l, .slice a0 len0 cap0] 48)).trans (hb.mono (by simp)))
    clear hb
    go_wp2_with fail
    go_ret
    exact ⟨rfl, HB.out⟩
  · have h0 := w0.ints (by omega)
    obtain ⟨ch, hch⟩ : ∃ xs, z0.take len0 = xs := ⟨_, rfl⟩
    rw [hch] at h0
    have H := Lib.hid h0
    have HL0 := Lib.hid h0.len
    have hl1 : len0 ≤ 1048576 := by omega
    have hfit : (len0 : Int) ≤ 1048576 := by omega
    have hp : ¬ (1048576 : Int) - len0 < 0 := by omega
    have L0 := (LW.start w).box [.int .i64 d, .int .i64 m, .int .i64 v, .int .i64 l, .slice a0 len0 cap0] 48
    obtain ⟨c0, c1, c2, c3, c4⟩ := L0.c5 (.head _)
    have HL := Lib.hid L0
    have CS : Hid (∀ W B1, Hid (Ints W (some ⟨B1, 0, none⟩) len0 ch) → Calls Try.prog 23 #[.agg #[.int .i64 d, .int .i64 m, .int .i64 v, .int .i64 l, .slice (some ⟨B1, 0, none⟩) len0 len0], .int .i64 a1] W fun e w' => e = .returned (.tuple #[.bool (fB (fmE (fmB d m v l ch) (mthB a1)) (wdB v l a1)), .int .i64 (fmE (fmB d m v l ch) (mthB a1))]) ∧ Below W.heap.size W w') := Lib.hid (fun W B1 hW => sgw_any d m v l ch _ _ _ a1 W hW.out)
    have CI : Hid (∀ W B1, Hid (Ints W (some ⟨B1, 0, none⟩) len0 ch) → Calls Try.prog 22 #[.agg #[.int .i64 d, .int .i64 m, .int .i64 v, .int .i64 l, .slice (some ⟨B1, 0, none⟩) len0 len0], .int .i64 a1] W fun e w' => e = .returned (.tuple #[.bool (fB (fmE (fmB d m v l ch) (mthB a1)) (wdB v l a1)), .int .i64 (fmE (fmB d m v l ch) (mthB a1))]) ∧ Below W.heap.size W w') := Lib.hid (fun W B1 hW => igw_any d m v l ch _ _ _ a1 W hW.out)
    have CT : Hid (∀ W, Hid (Below w.heap.size w W) → Calls Try.prog 41 #[.agg #[.int .i64 d, .int .i64 m, .int .i64 v, .int .i64 l, .slice a0 len0 cap0]] W (TfPost d m v l ch len0 W)) := Lib.hid (fun W hW => toF_any d m v l ch _ _ _ W (H.out.on hW.out) hl1)
    unfold TfPost at CT
    obtain ⟨V, hV⟩ : ∃ y_, fB (fmE (fmB d m v l ch) (mthB a1)) (wdB v l a1) = y_ := ⟨_, rfl⟩
    obtain ⟨E, hE⟩ : ∃ y_, fmE (fmB d m v l ch) (mthB a1) = y_ := ⟨_, rfl⟩
    rw [hV, hE] at CS CI
    clear hV hE
    clear h0 w0 hch hbig hmx L0
    go_enter Try.func6, Try.ntmps6
    go_wp2_with fail
    refine (szF_fit _ _ _ _ _ _ _ _ _ (by omega) (by omega) hfit).mono ?_
    rintro e w1 ⟨rfl, hb⟩
    have HL := Lib.hid (HL.out.on hb)
    obtain ⟨c0, c1, c2, c3, c4⟩ := HL.out.c5 (.head _)
    clear hb
    go_wp2_with fail
    refine (CT.out _ (Lib.hid HL.out.low)).mono ?_
    rintro e w2 ⟨B1, rfl, t1, hb⟩
    have HL := Lib.hid (HL.out.on hb)
    have T1 := Lib.hid t1.ints
    obtain ⟨c0, c1, c2, c3, c4⟩ := HL.out.c5 (.head _)
    clear hb t1
    go_wp2_with fail
    refine (CS.out _ _ T1).mono ?_
    rintro e w3 ⟨rfl, hb⟩
    have HL := Lib.hid (HL.out.on hb)
    obtain ⟨c0, c1, c2, c3, c4⟩ := HL.out.c5 (.head _)
    clear hb T1
    go_wp2_with fail
    refine (CT.out _ (Lib.hid HL.out.low)).mono ?_
    rintro e w4 ⟨B2, rfl, t1, hb⟩
    have HL := Lib.hid ((HL.out.add hb t1).box [.int .i64 d, .int .i64 m, .int .i64 v, .int .i64 l, .slice (some ⟨B2, 0, none⟩) len0 len0] 26)
    obtain ⟨x0, x1, x2, x3, x4⟩ := HL.out.c5 (.head _)
    obtain ⟨c0, c1, c2, c3, c4⟩ := HL.out.c5 (.tail _ (.head _))
    have T2 := Lib.hid (HL.out.tl _ (.head _)).ints
    clear hb t1
    go_wp2_with fail
    refine (CI.out _ _ T2).mono ?_
    rintro e w5 ⟨rfl, hb⟩
    have HL := Lib.hid (HL.out.on hb)
    obtain ⟨X, hX⟩ : ∃ y_, w4.heap.size = y_ := ⟨_, rfl⟩
    rw [hX] at HL
    obtain ⟨x0, x1, x2, x3, x4⟩ := HL.out.c5 (.head _)
    obtain ⟨c0, c1, c2, c3, c4⟩ := HL.out.c5 (.tail _ (.head _))
    clear hb CI T2
    go_wp2_with fail
    (try rw [hX])
    clear hX
    have HXS : Hid (∀ W, Hid (LW w [(X, [.int .i64 d, .int .i64 m, .int .i64 v, .int .i64 l, .slice (some ⟨B2, 0, none⟩) len0 len0]), (w.heap.size, [.int .i64 d, .int .i64 m, .int .i64 v, .int .i64 l, .slice a0 len0 cap0])] [(some ⟨B2, 0, none⟩, len0, ch)] W) → Calls Try.prog 41 #[.agg #[.int .i64 d, .int .i64 m, .int .i64 v, .int .i64 l, .slice a0 len0 cap0]] W (TfPost d m v l ch len0 W)) := Lib.hid (fun W hW => toF_any d m v l ch _ _ _ W (H.out.on hW.out.low) hl1)
    have HEQ : Hid (∀ W B3, Hid (LW w [(X, [.int .i64 d, .int .i64 m, .int .i64 v, .int .i64 l, .slice (some ⟨B2, 0, none⟩) len0 len0]), (w.heap.size, [.int .i64 d, .int .i64 m, .int .i64 v, .int .i64 l, .slice a0 len0 cap0])] [(some ⟨B2, 0, none⟩, len0, ch)] W) → Hid (Ints W (some ⟨B3, 0, none⟩) len0 ch) → Calls Try.prog 42 #[.agg #[.int .i64 d, .int .i64 m, .int .i64 v, .int .i64 l, .slice (some ⟨B2, 0, none⟩) len0 len0], .agg #[.int .i64 d, .int .i64 m, .int .i64 v, .int .i64 l, .slice (some ⟨B3, 0, none⟩) len0 len0]] W fun e w' => e = .returned (.bool true) ∧ Below W.heap.size W w') := Lib.hid (fun W B3 hW h3 => eqF_same d m v l ch _ _ _ _ _ _ W (hW.out.tl _ (.head _)).ints h3.out)
    unfold TfPost at HXS
    go_region_held3 (fun W9 => W9.cell? ⟨X, 0, none⟩ = some (.int .i64 d) ∧ W9.cell? ⟨X, 1, none⟩ = some (.int .i64 m) ∧ W9.cell? ⟨X, 2, none⟩ = some (.int .i64 v) ∧ W9.cell? ⟨X, 3, none⟩ = some (.int .i64 l) ∧ W9.cell? ⟨X, 4, none⟩ = some (.slice (some ⟨B2, 0, none⟩) len0 len0) ∧ W9.cell? ⟨w.heap.size, 0, none⟩ = some (.int .i64 d) ∧ W9.cell? ⟨w.heap.size, 1, none⟩ = some (.int .i64 m) ∧ W9.cell? ⟨w.heap.size, 2, none⟩ = some (.int .i64 v) ∧ W9.cell? ⟨w.heap.size, 3, none⟩ = some (.int .i64 l) ∧ W9.cell? ⟨w.heap.size, 4, none⟩ = some (.slice a0 len0 cap0) ∧ Hid (LW w [(X, [.int .i64 d, .int .i64 m, .int .i64 v, .int .i64 l, .slice (some ⟨B2, 0, none⟩) len0 len0]), (w.heap.size, [.int .i64 d, .int .i64 m, .int .i64 v, .int .i64 l, .slice a0 len0 cap0])] [(some ⟨B2, 0, none⟩, len0, ch)] W9))
      (first
        | (go_split_ands; with_reducible exact lwF2 (Hid.out (by with_reducible assumption)))
        | (go_split_ands; with_reducible exact lwF2 (LW.on (Hid.out (by with_reducible assumption)) hb))
        | (go_split_ands; with_reducible exact lwF2 (LW.drew (Hid.out (by with_reducible assumption))))
        | fail)
      (first
        | (go_split_ands; go_at_call 41; ((with_reducible refine (HXS.out _ (by with_reducible assumption)).mono ?_); rintro e w' ⟨B3, rfl, t3, hb⟩; have HT3 := Lib.hid t3.ints; clear t3))
        | (go_split_ands; go_at_call 42; ((with_reducible refine (HEQ.out _ _ (by with_reducible assumption) (by with_reducible assumption)).mono ?_); rintro e w' ⟨rfl, hb⟩))
        | fail)
    all_goals
      go_split_ands
      have HLF : Hid (LW w [(X, [.int .i64 d, .int .i64 m, .int .i64 v, .int .i64 l, .slice (some ⟨B2, 0, none⟩) len0 len0]), (w.heap.size, [.int .i64 d, .int .i64 m, .int .i64 v, .int .i64 l, .slice a0 len0 cap0])] [(some ⟨B2, 0, none⟩, len0, ch)] w') := by with_reducible assumption
      go_wp2_with fail
      go_ret
      exact ⟨rfl, HLF.out.low⟩

set_option maxHeartbeats 1000000 in
theorem fnExactOrphansIn_walk (d m v l : Int) (a0 : Option Addr) (len0 cap0 : Nat) (z0 : List Int) (a1 : Int) (w : World) (w0 : IsRow .i64 w a0 len0 cap0 z0) (w1 : (Lit.int .i64 a1).wf = true) :
    Calls Try.prog 7 #[.agg #[.int .i64 d, .int .i64 m, .int .i64 v, .int .i64 l, .slice a0 len0 cap0], .int .i64 a1] w fun e w' => e = .returned (.bool true) ∧ Below w.heap.size w w' := by
  have hmx := w0.len_le
  unfold maxLen at hmx
  by_cases hbig : (1048576 : Int) < len0
  · go_enter Try.func7, Try.ntmps7
    go_wp2_with fail
    refine (szF_big _ _ _ _ _ _ _ _ _ (by omega) (by omega) (by omega) hbig).mono ?_
    rintro e w1 ⟨rfl, hb⟩
    have HB := Lib.hid ((box_b w (.cells #[.int .i64 d, .int .i64 m, .int .i64 v, .int .i64 l, .slice a0 len0 cap0] 48)).trans (hb.mono (by simp)))
    clear hb
    go_wp2_with fail
    go_ret
    exact ⟨rfl, HB.out⟩
  · have h0 := w0.ints (by omega)
    obtain ⟨ch, hch⟩ : ∃ xs, z0.take len0 = xs := ⟨_, rfl⟩
    rw [hch] at h0
    have H := Lib.hid h0
    have HL0 := Lib.hid h0.len
    have hl1 : len0 ≤ 1048576 := by omega
    have hfit : (len0 : Int) ≤ 1048576 := by omega
    have hp : ¬ (1048576 : Int) - len0 < 0 := by omega
    have L0 := (LW.start w).box [.int .i64 d, .int .i64 m, .int .i64 v, .int .i64 l, .slice a0 len0 cap0] 48
    obtain ⟨c0, c1, c2, c3, c4⟩ := L0.c5 (.head _)
    have HL := Lib.hid L0
    have CS : Hid (∀ W B1, Hid (Ints W (some ⟨B1, 0, none⟩) len0 ch) → Calls Try.prog 25 #[.agg #[.int .i64 d, .int .i64 m, .int .i64 v, .int .i64 l, .slice (some ⟨B1, 0, none⟩) len0 len0], .int .i64 a1] W fun e w' => e = .returned (.tuple #[.int .i64 (fV (fmE (fmB d m v l ch) (mthB a1)) (orN d ch a1)), .int .i64 (fmE (fmB d m v l ch) (mthB a1))]) ∧ Below W.heap.size W w') := Lib.hid (fun W B1 hW => soi_any d m v l ch _ _ _ a1 W hW.out)
    have CI : Hid (∀ W B1, Hid (Ints W (some ⟨B1, 0, none⟩) len0 ch) → Calls Try.prog 24 #[.agg #[.int .i64 d, .int .i64 m, .int .i64 v, .int .i64 l, .slice (some ⟨B1, 0, none⟩) len0 len0], .int .i64 a1] W fun e w' => e = .returned (.tuple #[.int .i64 (fV (fmE (fmB d m v l ch) (mthB a1)) (orN d ch a1)), .int .i64 (fmE (fmB d m v l ch) (mthB a1))]) ∧ Below W.heap.size W w') := Lib.hid (fun W B1 hW => ioi_any d m v l ch _ _ _ a1 W hW.out)
    have CT : Hid (∀ W, Hid (Below w.heap.size w W) → Calls Try.prog 41 #[.agg #[.int .i64 d, .int .i64 m, .int .i64 v, .int .i64 l, .slice a0 len0 cap0]] W (TfPost d m v l ch len0 W)) := Lib.hid (fun W hW => toF_any d m v l ch _ _ _ W (H.out.on hW.out) hl1)
    unfold TfPost at CT
    obtain ⟨V, hV⟩ : ∃ y_, fV (fmE (fmB d m v l ch) (mthB a1)) (orN d ch a1) = y_ := ⟨_, rfl⟩
    obtain ⟨E, hE⟩ : ∃ y_, fmE (fmB d m v l ch) (mthB a1) = y_ := ⟨_, rfl⟩
    rw [hV, hE] at CS CI
    clear hV hE
    clear h0 w0 hch hbig hmx L0
    go_enter Try.func7, Try.ntmps7
    go_wp2_with fail
    refine (szF_fit _ _ _ _ _ _ _ _ _ (by omega) (by omega) hfit).mono ?_
    rintro e w1 ⟨rfl, hb⟩
    have HL := Lib.hid (HL.out.on hb)
    obtain ⟨c0, c1, c2, c3, c4⟩ := HL.out.c5 (.head _)
    clear hb
    go_wp2_with fail
    refine (CT.out _ (Lib.hid HL.out.low)).mono ?_
    rintro e w2 ⟨B1, rfl, t1, hb⟩
    have HL := Lib.hid (HL.out.on hb)
    have T1 := Lib.hid t1.ints
    obtain ⟨c0, c1, c2, c3, c4⟩ := HL.out.c5 (.head _)
    clear hb t1
    go_wp2_with fail
    refine (CS.out _ _ T1).mono ?_
    rintro e w3 ⟨rfl, hb⟩
    have HL := Lib.hid (HL.out.on hb)
    obtain ⟨c0, c1, c2, c3, c4⟩ := HL.out.c5 (.head _)
    clear hb T1
    go_wp2_with fail
    refine (CT.out _ (Lib.hid HL.out.low)).mono ?_
    rintro e w4 ⟨B2, rfl, t1, hb⟩
    have HL := Lib.hid ((HL.out.add hb t1).box [.int .i64 d, .int .i64 m, .int .i64 v, .int .i64 l, .slice (some ⟨B2, 0, none⟩) len0 len0] 26)
    obtain ⟨x0, x1, x2, x3, x4⟩ := HL.out.c5 (.head _)
    obtain ⟨c0, c1, c2, c3, c4⟩ := HL.out.c5 (.tail _ (.head _))
    have T2 := Lib.hid (HL.out.tl _ (.head _)).ints
    clear hb t1
    go_wp2_with fail
    refine (CI.out _ _ T2).mono ?_
    rintro e w5 ⟨rfl, hb⟩
    have HL := Lib.hid (HL.out.on hb)
    obtain ⟨X, hX⟩ : ∃ y_, w4.heap.size = y_ := ⟨_, rfl⟩
    rw [hX] at HL
    obtain ⟨x0, x1, x2, x3, x4⟩ := HL.out.c5 (.head _)
    obtain ⟨c0, c1, c2, c3, c4⟩ := HL.out.c5 (.tail _ (.head _))
    clear hb CI T2
    go_wp2_with fail
    (try rw [hX])
    clear hX
    have HXS : Hid (∀ W, Hid (LW w [(X, [.int .i64 d, .int .i64 m, .int .i64 v, .int .i64 l, .slice (some ⟨B2, 0, none⟩) len0 len0]), (w.heap.size, [.int .i64 d, .int .i64 m, .int .i64 v, .int .i64 l, .slice a0 len0 cap0])] [(some ⟨B2, 0, none⟩, len0, ch)] W) → Calls Try.prog 41 #[.agg #[.int .i64 d, .int .i64 m, .int .i64 v, .int .i64 l, .slice a0 len0 cap0]] W (TfPost d m v l ch len0 W)) := Lib.hid (fun W hW => toF_any d m v l ch _ _ _ W (H.out.on hW.out.low) hl1)
    have HEQ : Hid (∀ W B3, Hid (LW w [(X, [.int .i64 d, .int .i64 m, .int .i64 v, .int .i64 l, .slice (some ⟨B2, 0, none⟩) len0 len0]), (w.heap.size, [.int .i64 d, .int .i64 m, .int .i64 v, .int .i64 l, .slice a0 len0 cap0])] [(some ⟨B2, 0, none⟩, len0, ch)] W) → Hid (Ints W (some ⟨B3, 0, none⟩) len0 ch) → Calls Try.prog 42 #[.agg #[.int .i64 d, .int .i64 m, .int .i64 v, .int .i64 l, .slice (some ⟨B2, 0, none⟩) len0 len0], .agg #[.int .i64 d, .int .i64 m, .int .i64 v, .int .i64 l, .slice (some ⟨B3, 0, none⟩) len0 len0]] W fun e w' => e = .returned (.bool true) ∧ Below W.heap.size W w') := Lib.hid (fun W B3 hW h3 => eqF_same d m v l ch _ _ _ _ _ _ W (hW.out.tl _ (.head _)).ints h3.out)
    unfold TfPost at HXS
    go_region_held3 (fun W9 => W9.cell? ⟨X, 0, none⟩ = some (.int .i64 d) ∧ W9.cell? ⟨X, 1, none⟩ = some (.int .i64 m) ∧ W9.cell? ⟨X, 2, none⟩ = some (.int .i64 v) ∧ W9.cell? ⟨X, 3, none⟩ = some (.int .i64 l) ∧ W9.cell? ⟨X, 4, none⟩ = some (.slice (some ⟨B2, 0, none⟩) len0 len0) ∧ W9.cell? ⟨w.heap.size, 0, none⟩ = some (.int .i64 d) ∧ W9.cell? ⟨w.heap.size, 1, none⟩ = some (.int .i64 m) ∧ W9.cell? ⟨w.heap.size, 2, none⟩ = some (.int .i64 v) ∧ W9.cell? ⟨w.heap.size, 3, none⟩ = some (.int .i64 l) ∧ W9.cell? ⟨w.heap.size, 4, none⟩ = some (.slice a0 len0 cap0) ∧ Hid (LW w [(X, [.int .i64 d, .int .i64 m, .int .i64 v, .int .i64 l, .slice (some ⟨B2, 0, none⟩) len0 len0]), (w.heap.size, [.int .i64 d, .int .i64 m, .int .i64 v, .int .i64 l, .slice a0 len0 cap0])] [(some ⟨B2, 0, none⟩, len0, ch)] W9))
      (first
        | (go_split_ands; with_reducible exact lwF2 (Hid.out (by with_reducible assumption)))
        | (go_split_ands; with_reducible exact lwF2 (LW.on (Hid.out (by with_reducible assumption)) hb))
        | (go_split_ands; with_reducible exact lwF2 (LW.drew (Hid.out (by with_reducible assumption))))
        | fail)
      (first
        | (go_split_ands; go_at_call 41; ((with_reducible refine (HXS.out _ (by with_reducible assumption)).mono ?_); rintro e w' ⟨B3, rfl, t3, hb⟩; have HT3 := Lib.hid t3.ints; clear t3))
        | (go_split_ands; go_at_call 42; ((with_reducible refine (HEQ.out _ _ (by with_reducible assumption) (by with_reducible assumption)).mono ?_); rintro e w' ⟨rfl, hb⟩))
        | fail)
    all_goals
      go_split_ands
      have HLF : Hid (LW w [(X, [.int .i64 d, .int .i64 m, .int .i64 v, .int .i64 l, .slice (some ⟨B2, 0, none⟩) len0 len0]), (w.heap.size, [.int .i64 d, .int .i64 m, .int .i64 v, .int .i64 l, .slice a0 len0 cap0])] [(some ⟨B2, 0, none⟩, len0, ch)] w') := by with_reducible assumption
      go_wp2_with fail
      go_ret
      exact ⟨rfl, HLF.out.low⟩

set_option maxHeartbeats 1000000 in
theorem fnExactPensionIn_walk (d m v l : Int) (a0 : Option Addr) (len0 cap0 : Nat) (z0 : List Int) (a1 a2 a3 : Int) (w : World) (w0 : IsRow .i64 w a0 len0 cap0 z0) (w1 : (Lit.int .i64 a1).wf = true) (w2 : (Lit.int .i64 a2).wf = true) (w3 : (Lit.int .i64 a3).wf = true) :
    Calls Try.prog 8 #[.agg #[.int .i64 d, .int .i64 m, .int .i64 v, .int .i64 l, .slice a0 len0 cap0], .int .i64 a1, .int .i64 a2, .int .i64 a3] w fun e w' => e = .returned (.bool true) ∧ Below w.heap.size w w' := by
  have hmx := w0.len_le
  unfold maxLen at hmx
  by_cases hbig : (1048576 : Int) < len0
  · go_enter Try.func8, Try.ntmps8
    go_wp2_with fail
    refine (szF_big _ _ _ _ _ _ _ _ _ (by omega) (by omega) (by omega) hbig).mono ?_
    rintro e w1 ⟨rfl, hb⟩
    have HB := Lib.hid ((box_b w (.cells #[.int .i64 d, .int .i64 m, .int .i64 v, .int .i64 l, .slice a0 len0 cap0] 48)).trans (hb.mono (by simp)))
    clear hb
    go_wp2_with fail
    go_ret
    exact ⟨rfl, HB.out⟩
  · have h0 := w0.ints (by omega)
    obtain ⟨ch, hch⟩ : ∃ xs, z0.take len0 = xs := ⟨_, rfl⟩
    rw [hch] at h0
    have H := Lib.hid h0
    have HL0 := Lib.hid h0.len
    have hl1 : len0 ≤ 1048576 := by omega
    have hfit : (len0 : Int) ≤ 1048576 := by omega
    have hp : ¬ (1048576 : Int) - len0 < 0 := by omega
    have L0 := (LW.start w).box [.int .i64 d, .int .i64 m, .int .i64 v, .int .i64 l, .slice a0 len0 cap0] 48
    obtain ⟨c0, c1, c2, c3, c4⟩ := L0.c5 (.head _)
    have HL := Lib.hid L0
    have CS : Hid (∀ W B1, Hid (Ints W (some ⟨B1, 0, none⟩) len0 ch) → Calls Try.prog 21 #[.agg #[.int .i64 d, .int .i64 m, .int .i64 v, .int .i64 l, .slice (some ⟨B1, 0, none⟩) len0 len0], .int .i64 a1, .int .i64 a2, .int .i64 a3] W fun e w' => e = .returned (.tuple #[.int .i64 (fV (fmE (fmB d m v l ch) (mthB a1 && rtP a2 a3)) (pnV d v l ch a1 a2 a3)), .int .i64 (fmE (fmB d m v l ch) (mthB a1 && rtP a2 a3))]) ∧ Below W.heap.size W w') := Lib.hid (fun W B1 hW => spi_any d m v l ch _ _ _ a1 a2 a3 W hW.out)
    have CI : Hid (∀ W B1, Hid (Ints W (some ⟨B1, 0, none⟩) len0 ch) → Calls Try.prog 20 #[.agg #[.int .i64 d, .int .i64 m, .int .i64 v, .int .i64 l, .slice (some ⟨B1, 0, none⟩) len0 len0], .int .i64 a1, .int .i64 a2, .int .i64 a3] W fun e w' => e = .returned (.tuple #[.int .i64 (fV (fmE (fmB d m v l ch) (mthB a1 && rtP a2 a3)) (pnV d v l ch a1 a2 a3)), .int .i64 (fmE (fmB d m v l ch) (mthB a1 && rtP a2 a3))]) ∧ Below W.heap.size W w') := Lib.hid (fun W B1 hW => ipi_any d m v l ch _ _ _ a1 a2 a3 W hW.out)
    have CT : Hid (∀ W, Hid (Below w.heap.size w W) → Calls Try.prog 41 #[.agg #[.int .i64 d, .int .i64 m, .int .i64 v, .int .i64 l, .slice a0 len0 cap0]] W (TfPost d m v l ch len0 W)) := Lib.hid (fun W hW => toF_any d m v l ch _ _ _ W (H.out.on hW.out) hl1)
    unfold TfPost at CT
    obtain ⟨V, hV⟩ : ∃ y_, fV (fmE (fmB d m v l ch) (mthB a1 && rtP a2 a3)) (pnV d v l ch a1 a2 a3) = y_ := ⟨_, rfl⟩
    obtain ⟨E, hE⟩ : ∃ y_, fmE (fmB d m v l ch) (mthB a1 && rtP a2 a3) = y_ := ⟨_, rfl⟩
    rw [hV, hE] at CS CI
    clear hV hE
    clear h0 w0 hch hbig hmx L0
    go_enter Try.func8, Try.ntmps8
    go_wp2_with fail
    refine (szF_fit _ _ _ _ _ _ _ _ _ (by omega) (by omega) hfit).mono ?_
    rintro e w1 ⟨rfl, hb⟩
    have HL := Lib.hid (HL.out.on hb)
    obtain ⟨c0, c1, c2, c3, c4⟩ := HL.out.c5 (.head _)
    clear hb
    go_wp2_with fail
    refine (CT.out _ (Lib.hid HL.out.low)).mono ?_
    rintro e w2 ⟨B1, rfl, t1, hb⟩
    have HL := Lib.hid (HL.out.on hb)
    have T1 := Lib.hid t1.ints
    obtain ⟨c0, c1, c2, c3, c4⟩ := HL.out.c5 (.head _)
    clear hb t1
    go_wp2_with fail
    refine (CS.out _ _ T1).mono ?_
    rintro e w3 ⟨rfl, hb⟩
    have HL := Lib.hid (HL.out.on hb)
    obtain ⟨c0, c1, c2, c3, c4⟩ := HL.out.c5 (.head _)
    clear hb T1
    go_wp2_with fail
    refine (CT.out _ (Lib.hid HL.out.low)).mono ?_
    rintro e w4 ⟨B2, rfl, t1, hb⟩
    have HL := Lib.hid ((HL.out.add hb t1).box [.int .i64 d, .int .i64 m, .int .i64 v, .int .i64 l, .slice (some ⟨B2, 0, none⟩) len0 len0] 26)
    obtain ⟨x0, x1, x2, x3, x4⟩ := HL.out.c5 (.head _)
    obtain ⟨c0, c1, c2, c3, c4⟩ := HL.out.c5 (.tail _ (.head _))
    have T2 := Lib.hid (HL.out.tl _ (.head _)).ints
    clear hb t1
    go_wp2_with fail
    refine (CI.out _ _ T2).mono ?_
    rintro e w5 ⟨rfl, hb⟩
    have HL := Lib.hid (HL.out.on hb)
    obtain ⟨X, hX⟩ : ∃ y_, w4.heap.size = y_ := ⟨_, rfl⟩
    rw [hX] at HL
    obtain ⟨x0, x1, x2, x3, x4⟩ := HL.out.c5 (.head _)
    obtain ⟨c0, c1, c2, c3, c4⟩ := HL.out.c5 (.tail _ (.head _))
    clear hb CI T2
    go_wp2_with fail
    (try rw [hX])
    clear hX
    have HXS : Hid (∀ W, Hid (LW w [(X, [.int .i64 d, .int .i64 m, .int .i64 v, .int .i64 l, .slice (some ⟨B2, 0, none⟩) len0 len0]), (w.heap.size, [.int .i64 d, .int .i64 m, .int .i64 v, .int .i64 l, .slice a0 len0 cap0])] [(some ⟨B2, 0, none⟩, len0, ch)] W) → Calls Try.prog 41 #[.agg #[.int .i64 d, .int .i64 m, .int .i64 v, .int .i64 l, .slice a0 len0 cap0]] W (TfPost d m v l ch len0 W)) := Lib.hid (fun W hW => toF_any d m v l ch _ _ _ W (H.out.on hW.out.low) hl1)
    have HEQ : Hid (∀ W B3, Hid (LW w [(X, [.int .i64 d, .int .i64 m, .int .i64 v, .int .i64 l, .slice (some ⟨B2, 0, none⟩) len0 len0]), (w.heap.size, [.int .i64 d, .int .i64 m, .int .i64 v, .int .i64 l, .slice a0 len0 cap0])] [(some ⟨B2, 0, none⟩, len0, ch)] W) → Hid (Ints W (some ⟨B3, 0, none⟩) len0 ch) → Calls Try.prog 42 #[.agg #[.int .i64 d, .int .i64 m, .int .i64 v, .int .i64 l, .slice (some ⟨B2, 0, none⟩) len0 len0], .agg #[.int .i64 d, .int .i64 m, .int .i64 v, .int .i64 l, .slice (some ⟨B3, 0, none⟩) len0 len0]] W fun e w' => e = .returned (.bool true) ∧ Below W.heap.size W w') := Lib.hid (fun W B3 hW h3 => eqF_same d m v l ch _ _ _ _ _ _ W (hW.out.tl _ (.head _)).ints h3.out)
    unfold TfPost at HXS
    go_region_held3 (fun W9 => W9.cell? ⟨X, 0, none⟩ = some (.int .i64 d) ∧ W9.cell? ⟨X, 1, none⟩ = some (.int .i64 m) ∧ W9.cell? ⟨X, 2, none⟩ = some (.int .i64 v) ∧ W9.cell? ⟨X, 3, none⟩ = some (.int .i64 l) ∧ W9.cell? ⟨X, 4, none⟩ = some (.slice (some ⟨B2, 0, none⟩) len0 len0) ∧ W9.cell? ⟨w.heap.size, 0, none⟩ = some (.int .i64 d) ∧ W9.cell? ⟨w.heap.size, 1, none⟩ = some (.int .i64 m) ∧ W9.cell? ⟨w.heap.size, 2, none⟩ = some (.int .i64 v) ∧ W9.cell? ⟨w.heap.size, 3, none⟩ = some (.int .i64 l) ∧ W9.cell? ⟨w.heap.size, 4, none⟩ = some (.slice a0 len0 cap0) ∧ Hid (LW w [(X, [.int .i64 d, .int .i64 m, .int .i64 v, .int .i64 l, .slice (some ⟨B2, 0, none⟩) len0 len0]), (w.heap.size, [.int .i64 d, .int .i64 m, .int .i64 v, .int .i64 l, .slice a0 len0 cap0])] [(some ⟨B2, 0, none⟩, len0, ch)] W9))
      (first
        | (go_split_ands; with_reducible exact lwF2 (Hid.out (by with_reducible assumption)))
        | (go_split_ands; with_reducible exact lwF2 (LW.on (Hid.out (by with_reducible assumption)) hb))
        | (go_split_ands; with_reducible exact lwF2 (LW.drew (Hid.out (by with_reducible assumption))))
        | fail)
      (first
        | (go_split_ands; go_at_call 41; ((with_reducible refine (HXS.out _ (by with_reducible assumption)).mono ?_); rintro e w' ⟨B3, rfl, t3, hb⟩; have HT3 := Lib.hid t3.ints; clear t3))
        | (go_split_ands; go_at_call 42; ((with_reducible refine (HEQ.out _ _ (by with_reducible assumption) (by with_reducible assumption)).mono ?_); rintro e w' ⟨rfl, hb⟩))
        | fail)
    all_goals
      go_split_ands
      have HLF : Hid (LW w [(X, [.int .i64 d, .int .i64 m, .int .i64 v, .int .i64 l, .slice (some ⟨B2, 0, none⟩) len0 len0]), (w.heap.size, [.int .i64 d, .int .i64 m, .int .i64 v, .int .i64 l, .slice a0 len0 cap0])] [(some ⟨B2, 0, none⟩, len0, ch)] w') := by with_reducible assumption
      go_wp2_with fail
      go_ret
      exact ⟨rfl, HLF.out.low⟩

set_option maxHeartbeats 1000000 in
theorem fnExactPensionBetween_walk (d m v l : Int) (a0 : Option Addr) (len0 cap0 : Nat) (z0 : List Int) (a1 a2 a3 a4 : Int) (w : World) (w0 : IsRow .i64 w a0 len0 cap0 z0) (w1 : (Lit.int .i64 a1).wf = true) (w2 : (Lit.int .i64 a2).wf = true) (w3 : (Lit.int .i64 a3).wf = true) (w4 : (Lit.int .i64 a4).wf = true) :
    Calls Try.prog 9 #[.agg #[.int .i64 d, .int .i64 m, .int .i64 v, .int .i64 l, .slice a0 len0 cap0], .int .i64 a1, .int .i64 a2, .int .i64 a3, .int .i64 a4] w fun e w' => e = .returned (.bool true) ∧ Below w.heap.size w w' := by
  have hmx := w0.len_le
  unfold maxLen at hmx
  by_cases hbig : (1048576 : Int) < len0
  · go_enter Try.func9, Try.ntmps9
    go_wp2_with fail
    refine (szF_big _ _ _ _ _ _ _ _ _ (by omega) (by omega) (by omega) hbig).mono ?_
    rintro e w1 ⟨rfl, hb⟩
    have HB := Lib.hid ((box_b w (.cells #[.int .i64 d, .int .i64 m, .int .i64 v, .int .i64 l, .slice a0 len0 cap0] 48)).trans (hb.mono (by simp)))
    clear hb
    go_wp2_with fail
    go_ret
    exact ⟨rfl, HB.out⟩
  · have h0 := w0.ints (by omega)
    obtain ⟨ch, hch⟩ : ∃ xs, z0.take len0 = xs := ⟨_, rfl⟩
    rw [hch] at h0
    have H := Lib.hid h0
    have HL0 := Lib.hid h0.len
    have hl1 : len0 ≤ 1048576 := by omega
    have hfit : (len0 : Int) ≤ 1048576 := by omega
    have hp : ¬ (1048576 : Int) - len0 < 0 := by omega
    have L0 := (LW.start w).box [.int .i64 d, .int .i64 m, .int .i64 v, .int .i64 l, .slice a0 len0 cap0] 48
    obtain ⟨c0, c1, c2, c3, c4⟩ := L0.c5 (.head _)
    have HL := Lib.hid L0
    have CS : Hid (∀ W B1, Hid (Ints W (some ⟨B1, 0, none⟩) len0 ch) → Calls Try.prog 18 #[.agg #[.int .i64 d, .int .i64 m, .int .i64 v, .int .i64 l, .slice (some ⟨B1, 0, none⟩) len0 len0], .int .i64 a1, .int .i64 a2, .int .i64 a3, .int .i64 a4] W fun e w' => e = .returned (.tuple #[.int .i64 (fV (fmE (fmB d m v l ch) (mthB a1 && mthB a2 && inB (a2 - a1) 0 1200 && rtP a3 a4)) (pbS d v l ch a3 a4 a1 (a2 - a1).toNat)), .int .i64 (fmE (fmB d m v l ch) (mthB a1 && mthB a2 && inB (a2 - a1) 0 1200 && rtP a3 a4))]) ∧ Below W.heap.size W w') := Lib.hid (fun W B1 hW => spb_any d m v l ch _ _ _ a1 a2 a3 a4 W hW.out)
    have CI : Hid (∀ W B1, Hid (Ints W (some ⟨B1, 0, none⟩) len0 ch) → Calls Try.prog 17 #[.agg #[.int .i64 d, .int .i64 m, .int .i64 v, .int .i64 l, .slice (some ⟨B1, 0, none⟩) len0 len0], .int .i64 a1, .int .i64 a2, .int .i64 a3, .int .i64 a4] W fun e w' => e = .returned (.tuple #[.int .i64 (fV (fmE (fmB d m v l ch) (mthB a1 && mthB a2 && inB (a2 - a1) 0 1200 && rtP a3 a4)) (pbS d v l ch a3 a4 a1 (a2 - a1).toNat)), .int .i64 (fmE (fmB d m v l ch) (mthB a1 && mthB a2 && inB (a2 - a1) 0 1200 && rtP a3 a4))]) ∧ Below W.heap.size W w') := Lib.hid (fun W B1 hW => ipb_any d m v l ch _ _ _ a1 a2 a3 a4 W hW.out)
    have CT : Hid (∀ W, Hid (Below w.heap.size w W) → Calls Try.prog 41 #[.agg #[.int .i64 d, .int .i64 m, .int .i64 v, .int .i64 l, .slice a0 len0 cap0]] W (TfPost d m v l ch len0 W)) := Lib.hid (fun W hW => toF_any d m v l ch _ _ _ W (H.out.on hW.out) hl1)
    unfold TfPost at CT
    obtain ⟨V, hV⟩ : ∃ y_, fV (fmE (fmB d m v l ch) (mthB a1 && mthB a2 && inB (a2 - a1) 0 1200 && rtP a3 a4)) (pbS d v l ch a3 a4 a1 (a2 - a1).toNat) = y_ := ⟨_, rfl⟩
    obtain ⟨E, hE⟩ : ∃ y_, fmE (fmB d m v l ch) (mthB a1 && mthB a2 && inB (a2 - a1) 0 1200 && rtP a3 a4) = y_ := ⟨_, rfl⟩
    rw [hV, hE] at CS CI
    clear hV hE
    clear h0 w0 hch hbig hmx L0
    go_enter Try.func9, Try.ntmps9
    go_wp2_with fail
    refine (szF_fit _ _ _ _ _ _ _ _ _ (by omega) (by omega) hfit).mono ?_
    rintro e w1 ⟨rfl, hb⟩
    have HL := Lib.hid (HL.out.on hb)
    obtain ⟨c0, c1, c2, c3, c4⟩ := HL.out.c5 (.head _)
    clear hb
    go_wp2_with fail
    refine (CT.out _ (Lib.hid HL.out.low)).mono ?_
    rintro e w2 ⟨B1, rfl, t1, hb⟩
    have HL := Lib.hid (HL.out.on hb)
    have T1 := Lib.hid t1.ints
    obtain ⟨c0, c1, c2, c3, c4⟩ := HL.out.c5 (.head _)
    clear hb t1
    go_wp2_with fail
    refine (CS.out _ _ T1).mono ?_
    rintro e w3 ⟨rfl, hb⟩
    have HL := Lib.hid (HL.out.on hb)
    obtain ⟨c0, c1, c2, c3, c4⟩ := HL.out.c5 (.head _)
    clear hb T1
    go_wp2_with fail
    refine (CT.out _ (Lib.hid HL.out.low)).mono ?_
    rintro e w4 ⟨B2, rfl, t1, hb⟩
    have HL := Lib.hid ((HL.out.add hb t1).box [.int .i64 d, .int .i64 m, .int .i64 v, .int .i64 l, .slice (some ⟨B2, 0, none⟩) len0 len0] 26)
    obtain ⟨x0, x1, x2, x3, x4⟩ := HL.out.c5 (.head _)
    obtain ⟨c0, c1, c2, c3, c4⟩ := HL.out.c5 (.tail _ (.head _))
    have T2 := Lib.hid (HL.out.tl _ (.head _)).ints
    clear hb t1
    go_wp2_with fail
    refine (CI.out _ _ T2).mono ?_
    rintro e w5 ⟨rfl, hb⟩
    have HL := Lib.hid (HL.out.on hb)
    obtain ⟨X, hX⟩ : ∃ y_, w4.heap.size = y_ := ⟨_, rfl⟩
    rw [hX] at HL
    obtain ⟨x0, x1, x2, x3, x4⟩ := HL.out.c5 (.head _)
    obtain ⟨c0, c1, c2, c3, c4⟩ := HL.out.c5 (.tail _ (.head _))
    clear hb CI T2
    go_wp2_with fail
    (try rw [hX])
    clear hX
    have HXS : Hid (∀ W, Hid (LW w [(X, [.int .i64 d, .int .i64 m, .int .i64 v, .int .i64 l, .slice (some ⟨B2, 0, none⟩) len0 len0]), (w.heap.size, [.int .i64 d, .int .i64 m, .int .i64 v, .int .i64 l, .slice a0 len0 cap0])] [(some ⟨B2, 0, none⟩, len0, ch)] W) → Calls Try.prog 41 #[.agg #[.int .i64 d, .int .i64 m, .int .i64 v, .int .i64 l, .slice a0 len0 cap0]] W (TfPost d m v l ch len0 W)) := Lib.hid (fun W hW => toF_any d m v l ch _ _ _ W (H.out.on hW.out.low) hl1)
    have HEQ : Hid (∀ W B3, Hid (LW w [(X, [.int .i64 d, .int .i64 m, .int .i64 v, .int .i64 l, .slice (some ⟨B2, 0, none⟩) len0 len0]), (w.heap.size, [.int .i64 d, .int .i64 m, .int .i64 v, .int .i64 l, .slice a0 len0 cap0])] [(some ⟨B2, 0, none⟩, len0, ch)] W) → Hid (Ints W (some ⟨B3, 0, none⟩) len0 ch) → Calls Try.prog 42 #[.agg #[.int .i64 d, .int .i64 m, .int .i64 v, .int .i64 l, .slice (some ⟨B2, 0, none⟩) len0 len0], .agg #[.int .i64 d, .int .i64 m, .int .i64 v, .int .i64 l, .slice (some ⟨B3, 0, none⟩) len0 len0]] W fun e w' => e = .returned (.bool true) ∧ Below W.heap.size W w') := Lib.hid (fun W B3 hW h3 => eqF_same d m v l ch _ _ _ _ _ _ W (hW.out.tl _ (.head _)).ints h3.out)
    unfold TfPost at HXS
    go_region_held3 (fun W9 => W9.cell? ⟨X, 0, none⟩ = some (.int .i64 d) ∧ W9.cell? ⟨X, 1, none⟩ = some (.int .i64 m) ∧ W9.cell? ⟨X, 2, none⟩ = some (.int .i64 v) ∧ W9.cell? ⟨X, 3, none⟩ = some (.int .i64 l) ∧ W9.cell? ⟨X, 4, none⟩ = some (.slice (some ⟨B2, 0, none⟩) len0 len0) ∧ W9.cell? ⟨w.heap.size, 0, none⟩ = some (.int .i64 d) ∧ W9.cell? ⟨w.heap.size, 1, none⟩ = some (.int .i64 m) ∧ W9.cell? ⟨w.heap.size, 2, none⟩ = some (.int .i64 v) ∧ W9.cell? ⟨w.heap.size, 3, none⟩ = some (.int .i64 l) ∧ W9.cell? ⟨w.heap.size, 4, none⟩ = some (.slice a0 len0 cap0) ∧ Hid (LW w [(X, [.int .i64 d, .int .i64 m, .int .i64 v, .int .i64 l, .slice (some ⟨B2, 0, none⟩) len0 len0]), (w.heap.size, [.int .i64 d, .int .i64 m, .int .i64 v, .int .i64 l, .slice a0 len0 cap0])] [(some ⟨B2, 0, none⟩, len0, ch)] W9))
      (first
        | (go_split_ands; with_reducible exact lwF2 (Hid.out (by with_reducible assumption)))
        | (go_split_ands; with_reducible exact lwF2 (LW.on (Hid.out (by with_reducible assumption)) hb))
        | (go_split_ands; with_reducible exact lwF2 (LW.drew (Hid.out (by with_reducible assumption))))
        | fail)
      (first
        | (go_split_ands; go_at_call 41; ((with_reducible refine (HXS.out _ (by with_reducible assumption)).mono ?_); rintro e w' ⟨B3, rfl, t3, hb⟩; have HT3 := Lib.hid t3.ints; clear t3))
        | (go_split_ands; go_at_call 42; ((with_reducible refine (HEQ.out _ _ (by with_reducible assumption) (by with_reducible assumption)).mono ?_); rintro e w' ⟨rfl, hb⟩))
        | fail)
    all_goals
      go_split_ands
      have HLF : Hid (LW w [(X, [.int .i64 d, .int .i64 m, .int .i64 v, .int .i64 l, .slice (some ⟨B2, 0, none⟩) len0 len0]), (w.heap.size, [.int .i64 d, .int .i64 m, .int .i64 v, .int .i64 l, .slice a0 len0 cap0])] [(some ⟨B2, 0, none⟩, len0, ch)] w') := by with_reducible assumption
      go_wp2_with fail
      go_ret
      exact ⟨rfl, HLF.out.low⟩

set_option maxHeartbeats 1000000 in
theorem fnExactNextChange_walk (d m v l : Int) (a0 : Option Addr) (len0 cap0 : Nat) (z0 : List Int) (a1 : Int) (w : World) (w0 : IsRow .i64 w a0 len0 cap0 z0) (w1 : (Lit.int .i64 a1).wf = true) :
    Calls Try.prog 10 #[.agg #[.int .i64 d, .int .i64 m, .int .i64 v, .int .i64 l, .slice a0 len0 cap0], .int .i64 a1] w fun e w' => e = .returned (.bool true) ∧ Below w.heap.size w w' := by
  have hmx := w0.len_le
  unfold maxLen at hmx
  by_cases hbig : (1048576 : Int) < len0
  · go_enter Try.func10, Try.ntmps10
    go_wp2_with fail
    refine (szF_big _ _ _ _ _ _ _ _ _ (by omega) (by omega) (by omega) hbig).mono ?_
    rintro e w1 ⟨rfl, hb⟩
    have HB := Lib.hid ((box_b w (.cells #[.int .i64 d, .int .i64 m, .int .i64 v, .int .i64 l, .slice a0 len0 cap0] 48)).trans (hb.mono (by simp)))
    clear hb
    go_wp2_with fail
    go_ret
    exact ⟨rfl, HB.out⟩
  · have h0 := w0.ints (by omega)
    obtain ⟨ch, hch⟩ : ∃ xs, z0.take len0 = xs := ⟨_, rfl⟩
    rw [hch] at h0
    have H := Lib.hid h0
    have HL0 := Lib.hid h0.len
    have hl1 : len0 ≤ 1048576 := by omega
    have hfit : (len0 : Int) ≤ 1048576 := by omega
    have hp : ¬ (1048576 : Int) - len0 < 0 := by omega
    have L0 := (LW.start w).box [.int .i64 d, .int .i64 m, .int .i64 v, .int .i64 l, .slice a0 len0 cap0] 48
    obtain ⟨c0, c1, c2, c3, c4⟩ := L0.c5 (.head _)
    have HL := Lib.hid L0
    have CS : Hid (∀ W B1, Hid (Ints W (some ⟨B1, 0, none⟩) len0 ch) → Calls Try.prog 32 #[.agg #[.int .i64 d, .int .i64 m, .int .i64 v, .int .i64 l, .slice (some ⟨B1, 0, none⟩) len0 len0], .int .i64 a1] W fun e w' => e = .returned (.tuple #[.int .i64 (fV (nxE (fmE (fmB d m v l ch) (mthB a1)) (nxV d v l ch a1)) (nxV d v l ch a1)), .int .i64 (nxE (fmE (fmB d m v l ch) (mthB a1)) (nxV d v l ch a1))]) ∧ Below W.heap.size W w') := Lib.hid (fun W B1 hW => snx_any d m v l ch _ _ _ a1 W hW.out)
    have CI : Hid (∀ W B1, Hid (Ints W (some ⟨B1, 0, none⟩) len0 ch) → Calls Try.prog 31 #[.agg #[.int .i64 d, .int .i64 m, .int .i64 v, .int .i64 l, .slice (some ⟨B1, 0, none⟩) len0 len0], .int .i64 a1] W fun e w' => e = .returned (.tuple #[.int .i64 (fV (nxE (fmE (fmB d m v l ch) (mthB a1)) (nxV d v l ch a1)) (nxV d v l ch a1)), .int .i64 (nxE (fmE (fmB d m v l ch) (mthB a1)) (nxV d v l ch a1))]) ∧ Below W.heap.size W w') := Lib.hid (fun W B1 hW => inx_any d m v l ch _ _ _ a1 W hW.out)
    have CT : Hid (∀ W, Hid (Below w.heap.size w W) → Calls Try.prog 41 #[.agg #[.int .i64 d, .int .i64 m, .int .i64 v, .int .i64 l, .slice a0 len0 cap0]] W (TfPost d m v l ch len0 W)) := Lib.hid (fun W hW => toF_any d m v l ch _ _ _ W (H.out.on hW.out) hl1)
    unfold TfPost at CT
    obtain ⟨V, hV⟩ : ∃ y_, fV (nxE (fmE (fmB d m v l ch) (mthB a1)) (nxV d v l ch a1)) (nxV d v l ch a1) = y_ := ⟨_, rfl⟩
    obtain ⟨E, hE⟩ : ∃ y_, nxE (fmE (fmB d m v l ch) (mthB a1)) (nxV d v l ch a1) = y_ := ⟨_, rfl⟩
    rw [hV, hE] at CS CI
    clear hV hE
    clear h0 w0 hch hbig hmx L0
    go_enter Try.func10, Try.ntmps10
    go_wp2_with fail
    refine (szF_fit _ _ _ _ _ _ _ _ _ (by omega) (by omega) hfit).mono ?_
    rintro e w1 ⟨rfl, hb⟩
    have HL := Lib.hid (HL.out.on hb)
    obtain ⟨c0, c1, c2, c3, c4⟩ := HL.out.c5 (.head _)
    clear hb
    go_wp2_with fail
    refine (CT.out _ (Lib.hid HL.out.low)).mono ?_
    rintro e w2 ⟨B1, rfl, t1, hb⟩
    have HL := Lib.hid (HL.out.on hb)
    have T1 := Lib.hid t1.ints
    obtain ⟨c0, c1, c2, c3, c4⟩ := HL.out.c5 (.head _)
    clear hb t1
    go_wp2_with fail
    refine (CS.out _ _ T1).mono ?_
    rintro e w3 ⟨rfl, hb⟩
    have HL := Lib.hid (HL.out.on hb)
    obtain ⟨c0, c1, c2, c3, c4⟩ := HL.out.c5 (.head _)
    clear hb T1
    go_wp2_with fail
    refine (CT.out _ (Lib.hid HL.out.low)).mono ?_
    rintro e w4 ⟨B2, rfl, t1, hb⟩
    have HL := Lib.hid ((HL.out.add hb t1).box [.int .i64 d, .int .i64 m, .int .i64 v, .int .i64 l, .slice (some ⟨B2, 0, none⟩) len0 len0] 26)
    obtain ⟨x0, x1, x2, x3, x4⟩ := HL.out.c5 (.head _)
    obtain ⟨c0, c1, c2, c3, c4⟩ := HL.out.c5 (.tail _ (.head _))
    have T2 := Lib.hid (HL.out.tl _ (.head _)).ints
    clear hb t1
    go_wp2_with fail
    refine (CI.out _ _ T2).mono ?_
    rintro e w5 ⟨rfl, hb⟩
    have HL := Lib.hid (HL.out.on hb)
    obtain ⟨X, hX⟩ : ∃ y_, w4.heap.size = y_ := ⟨_, rfl⟩
    rw [hX] at HL
    obtain ⟨x0, x1, x2, x3, x4⟩ := HL.out.c5 (.head _)
    obtain ⟨c0, c1, c2, c3, c4⟩ := HL.out.c5 (.tail _ (.head _))
    clear hb CI T2
    go_wp2_with fail
    (try rw [hX])
    clear hX
    have HXS : Hid (∀ W, Hid (LW w [(X, [.int .i64 d, .int .i64 m, .int .i64 v, .int .i64 l, .slice (some ⟨B2, 0, none⟩) len0 len0]), (w.heap.size, [.int .i64 d, .int .i64 m, .int .i64 v, .int .i64 l, .slice a0 len0 cap0])] [(some ⟨B2, 0, none⟩, len0, ch)] W) → Calls Try.prog 41 #[.agg #[.int .i64 d, .int .i64 m, .int .i64 v, .int .i64 l, .slice a0 len0 cap0]] W (TfPost d m v l ch len0 W)) := Lib.hid (fun W hW => toF_any d m v l ch _ _ _ W (H.out.on hW.out.low) hl1)
    have HEQ : Hid (∀ W B3, Hid (LW w [(X, [.int .i64 d, .int .i64 m, .int .i64 v, .int .i64 l, .slice (some ⟨B2, 0, none⟩) len0 len0]), (w.heap.size, [.int .i64 d, .int .i64 m, .int .i64 v, .int .i64 l, .slice a0 len0 cap0])] [(some ⟨B2, 0, none⟩, len0, ch)] W) → Hid (Ints W (some ⟨B3, 0, none⟩) len0 ch) → Calls Try.prog 42 #[.agg #[.int .i64 d, .int .i64 m, .int .i64 v, .int .i64 l, .slice (some ⟨B2, 0, none⟩) len0 len0], .agg #[.int .i64 d, .int .i64 m, .int .i64 v, .int .i64 l, .slice (some ⟨B3, 0, none⟩) len0 len0]] W fun e w' => e = .returned (.bool true) ∧ Below W.heap.size W w') := Lib.hid (fun W B3 hW h3 => eqF_same d m v l ch _ _ _ _ _ _ W (hW.out.tl _ (.head _)).ints h3.out)
    unfold TfPost at HXS
    go_region_held3 (fun W9 => W9.cell? ⟨X, 0, none⟩ = some (.int .i64 d) ∧ W9.cell? ⟨X, 1, none⟩ = some (.int .i64 m) ∧ W9.cell? ⟨X, 2, none⟩ = some (.int .i64 v) ∧ W9.cell? ⟨X, 3, none⟩ = some (.int .i64 l) ∧ W9.cell? ⟨X, 4, none⟩ = some (.slice (some ⟨B2, 0, none⟩) len0 len0) ∧ W9.cell? ⟨w.heap.size, 0, none⟩ = some (.int .i64 d) ∧ W9.cell? ⟨w.heap.size, 1, none⟩ = some (.int .i64 m) ∧ W9.cell? ⟨w.heap.size, 2, none⟩ = some (.int .i64 v) ∧ W9.cell? ⟨w.heap.size, 3, none⟩ = some (.int .i64 l) ∧ W9.cell? ⟨w.heap.size, 4, none⟩ = some (.slice a0 len0 cap0) ∧ Hid (LW w [(X, [.int .i64 d, .int .i64 m, .int .i64 v, .int .i64 l, .slice (some ⟨B2, 0, none⟩) len0 len0]), (w.heap.size, [.int .i64 d, .int .i64 m, .int .i64 v, .int .i64 l, .slice a0 len0 cap0])] [(some ⟨B2, 0, none⟩, len0, ch)] W9))
      (first
        | (go_split_ands; with_reducible exact lwF2 (Hid.out (by with_reducible assumption)))
        | (go_split_ands; with_reducible exact lwF2 (LW.on (Hid.out (by with_reducible assumption)) hb))
        | (go_split_ands; with_reducible exact lwF2 (LW.drew (Hid.out (by with_reducible assumption))))
        | fail)
      (first
        | (go_split_ands; go_at_call 41; ((with_reducible refine (HXS.out _ (by with_reducible assumption)).mono ?_); rintro e w' ⟨B3, rfl, t3, hb⟩; have HT3 := Lib.hid t3.ints; clear t3))
        | (go_split_ands; go_at_call 42; ((with_reducible refine (HEQ.out _ _ (by with_reducible assumption) (by with_reducible assumption)).mono ?_); rintro e w' ⟨rfl, hb⟩))
        | fail)
    all_goals
      go_split_ands
      have HLF : Hid (LW w [(X, [.int .i64 d, .int .i64 m, .int .i64 v, .int .i64 l, .slice (some ⟨B2, 0, none⟩) len0 len0]), (w.heap.size, [.int .i64 d, .int .i64 m, .int .i64 v, .int .i64 l, .slice a0 len0 cap0])] [(some ⟨B2, 0, none⟩, len0, ch)] w') := by with_reducible assumption
      go_wp2_with fail
      go_ret
      exact ⟨rfl, HLF.out.low⟩

set_option maxHeartbeats 1000000 in
theorem fnExactEndOfPensions_walk (d m v l : Int) (a0 : Option Addr) (len0 cap0 : Nat) (z0 : List Int) (w : World) (w0 : IsRow .i64 w a0 len0 cap0 z0) :
    Calls Try.prog 11 #[.agg #[.int .i64 d, .int .i64 m, .int .i64 v, .int .i64 l, .slice a0 len0 cap0]] w fun e w' => e = .returned (.bool true) ∧ Below w.heap.size w w' := by
  have hmx := w0.len_le
  unfold maxLen at hmx
  by_cases hbig : (1048576 : Int) < len0
  · go_enter Try.func11, Try.ntmps11
    go_wp2_with fail
    refine (szF_big _ _ _ _ _ _ _ _ _ (by omega) (by omega) (by omega) hbig).mono ?_
    rintro e w1 ⟨rfl, hb⟩
    have HB := Lib.hid ((box_b w (.cells #[.int .i64 d, .int .i64 m, .int .i64 v, .int .i64 l, .slice a0 len0 cap0] 48)).trans (hb.mono (by simp)))
    clear hb
    go_wp2_with fail
    go_ret
    exact ⟨rfl, HB.out⟩
  · have h0 := w0.ints (by omega)
    obtain ⟨ch, hch⟩ : ∃ xs, z0.take len0 = xs := ⟨_, rfl⟩
    rw [hch] at h0
    have H := Lib.hid h0
    have HL0 := Lib.hid h0.len
    have hl1 : len0 ≤ 1048576 := by omega
    have hfit : (len0 : Int) ≤ 1048576 := by omega
    have hp : ¬ (1048576 : Int) - len0 < 0 := by omega
    have L0 := (LW.start w).box [.int .i64 d, .int .i64 m, .int .i64 v, .int .i64 l, .slice a0 len0 cap0] 48
    obtain ⟨c0, c1, c2, c3, c4⟩ := L0.c5 (.head _)
    have HL := Lib.hid L0
    have CS : Hid (∀ W B1, Hid (Ints W (some ⟨B1, 0, none⟩) len0 ch) → Calls Try.prog 35 #[.agg #[.int .i64 d, .int .i64 m, .int .i64 v, .int .i64 l, .slice (some ⟨B1, 0, none⟩) len0 len0]] W fun e w' => e = .returned (.tuple #[.int .i64 (fV (enE (fmB d m v l ch) v l (enM d l ch)) (enM d l ch)), .int .i64 (enE (fmB d m v l ch) v l (enM d l ch))]) ∧ Below W.heap.size W w') := Lib.hid (fun W B1 hW => sen_any d m v l ch _ _ _ W hW.out)
    have CI : Hid (∀ W B1, Hid (Ints W (some ⟨B1, 0, none⟩) len0 ch) → Calls Try.prog 34 #[.agg #[.int .i64 d, .int .i64 m, .int .i64 v, .int .i64 l, .slice (some ⟨B1, 0, none⟩) len0 len0]] W fun e w' => e = .returned (.tuple #[.int .i64 (fV (enE (fmB d m v l ch) v l (enM d l ch)) (enM d l ch)), .int .i64 (enE (fmB d m v l ch) v l (enM d l ch))]) ∧ Below W.heap.size W w') := Lib.hid (fun W B1 hW => ien_any d m v l ch _ _ _ W hW.out)
    have CT : Hid (∀ W, Hid (Below w.heap.size w W) → Calls Try.prog 41 #[.agg #[.int .i64 d, .int .i64 m, .int .i64 v, .int .i64 l, .slice a0 len0 cap0]] W (TfPost d m v l ch len0 W)) := Lib.hid (fun W hW => toF_any d m v l ch _ _ _ W (H.out.on hW.out) hl1)
    unfold TfPost at CT
    obtain ⟨V, hV⟩ : ∃ y_, fV (enE (fmB d m v l ch) v l (enM d l ch)) (enM d l ch) = y_ := ⟨_, rfl⟩
    obtain ⟨E, hE⟩ : ∃ y_, enE (fmB d m v l ch) v l (enM d l ch) = y_ := ⟨_, rfl⟩
    rw [hV, hE] at CS CI
    clear hV hE
    clear h0 w0 hch hbig hmx L0
    go_enter Try.func11, Try.ntmps11
    go_wp2_with fail
    refine (szF_fit _ _ _ _ _ _ _ _ _ (by omega) (by omega) hfit).mono ?_
    rintro e w1 ⟨rfl, hb⟩
    have HL := Lib.hid (HL.out.on hb)
    obtain ⟨c0, c1, c2, c3, c4⟩ := HL.out.c5 (.head _)
    clear hb
    go_wp2_with fail
    refine (CT.out _ (Lib.hid HL.out.low)).mono ?_
    rintro e w2 ⟨B1, rfl, t1, hb⟩
    have HL := Lib.hid (HL.out.on hb)
    have T1 := Lib.hid t1.ints
    obtain ⟨c0, c1, c2, c3, c4⟩ := HL.out.c5 (.head _)
    clear hb t1
    go_wp2_with fail
    refine (CS.out _ _ T1).mono ?_
    rintro e w3 ⟨rfl, hb⟩
    have HL := Lib.hid (HL.out.on hb)
    obtain ⟨c0, c1, c2, c3, c4⟩ := HL.out.c5 (.head _)
    clear hb T1
    go_wp2_with fail
    refine (CT.out _ (Lib.hid HL.out.low)).mono ?_
    rintro e w4 ⟨B2, rfl, t1, hb⟩
    have HL := Lib.hid ((HL.out.add hb t1).box [.int .i64 d, .int .i64 m, .int .i64 v, .int .i64 l, .slice (some ⟨B2, 0, none⟩) len0 len0] 26)
    obtain ⟨x0, x1, x2, x3, x4⟩ := HL.out.c5 (.head _)
    obtain ⟨c0, c1, c2, c3, c4⟩ := HL.out.c5 (.tail _ (.head _))
    have T2 := Lib.hid (HL.out.tl _ (.head _)).ints
    clear hb t1
    go_wp2_with fail
    refine (CI.out _ _ T2).mono ?_
    rintro e w5 ⟨rfl, hb⟩
    have HL := Lib.hid (HL.out.on hb)
    obtain ⟨X, hX⟩ : ∃ y_, w4.heap.size = y_ := ⟨_, rfl⟩
    rw [hX] at HL
    obtain ⟨x0, x1, x2, x3, x4⟩ := HL.out.c5 (.head _)
    obtain ⟨c0, c1, c2, c3, c4⟩ := HL.out.c5 (.tail _ (.head _))
    clear hb CI T2
    go_wp2_with fail
    (try rw [hX])
    clear hX
    have HXS : Hid (∀ W, Hid (LW w [(X, [.int .i64 d, .int .i64 m, .int .i64 v, .int .i64 l, .slice (some ⟨B2, 0, none⟩) len0 len0]), (w.heap.size, [.int .i64 d, .int .i64 m, .int .i64 v, .int .i64 l, .slice a0 len0 cap0])] [(some ⟨B2, 0, none⟩, len0, ch)] W) → Calls Try.prog 41 #[.agg #[.int .i64 d, .int .i64 m, .int .i64 v, .int .i64 l, .slice a0 len0 cap0]] W (TfPost d m v l ch len0 W)) := Lib.hid (fun W hW => toF_any d m v l ch _ _ _ W (H.out.on hW.out.low) hl1)
    have HEQ : Hid (∀ W B3, Hid (LW w [(X, [.int .i64 d, .int .i64 m, .int .i64 v, .int .i64 l, .slice (some ⟨B2, 0, none⟩) len0 len0]), (w.heap.size, [.int .i64 d, .int .i64 m, .int .i64 v, .int .i64 l, .slice a0 len0 cap0])] [(some ⟨B2, 0, none⟩, len0, ch)] W) → Hid (Ints W (some ⟨B3, 0, none⟩) len0 ch) → Calls Try.prog 42 #[.agg #[.int .i64 d, .int .i64 m, .int .i64 v, .int .i64 l, .slice (some ⟨B2, 0, none⟩) len0 len0], .agg #[.int .i64 d, .int .i64 m, .int .i64 v, .int .i64 l, .slice (some ⟨B3, 0, none⟩) len0 len0]] W fun e w' => e = .returned (.bool true) ∧ Below W.heap.size W w') := Lib.hid (fun W B3 hW h3 => eqF_same d m v l ch _ _ _ _ _ _ W (hW.out.tl _ (.head _)).ints h3.out)
    unfold TfPost at HXS
    go_region_held3 (fun W9 => W9.cell? ⟨X, 0, none⟩ = some (.int .i64 d) ∧ W9.cell? ⟨X, 1, none⟩ = some (.int .i64 m) ∧ W9.cell? ⟨X, 2, none⟩ = some (.int .i64 v) ∧ W9.cell? ⟨X, 3, none⟩ = some (.int .i64 l) ∧ W9.cell? ⟨X, 4, none⟩ = some (.slice (some ⟨B2, 0, none⟩) len0 len0) ∧ W9.cell? ⟨w.heap.size, 0, none⟩ = some (.int .i64 d) ∧ W9.cell? ⟨w.heap.size, 1, none⟩ = some (.int .i64 m) ∧ W9.cell? ⟨w.heap.size, 2, none⟩ = some (.int .i64 v) ∧ W9.cell? ⟨w.heap.size, 3, none⟩ = some (.int .i64 l) ∧ W9.cell? ⟨w.heap.size, 4, none⟩ = some (.slice a0 len0 cap0) ∧ Hid (LW w [(X, [.int .i64 d, .int .i64 m, .int .i64 v, .int .i64 l, .slice (some ⟨B2, 0, none⟩) len0 len0]), (w.heap.size, [.int .i64 d, .int .i64 m, .int .i64 v, .int .i64 l, .slice a0 len0 cap0])] [(some ⟨B2, 0, none⟩, len0, ch)] W9))
      (first
        | (go_split_ands; with_reducible exact lwF2 (Hid.out (by with_reducible assumption)))
        | (go_split_ands; with_reducible exact lwF2 (LW.on (Hid.out (by with_reducible assumption)) hb))
        | (go_split_ands; with_reducible exact lwF2 (LW.drew (Hid.out (by with_reducible assumption))))
        | fail)
      (first
        | (go_split_ands; go_at_call 41; ((with_reducible refine (HXS.out _ (by with_reducible assumption)).mono ?_); rintro e w' ⟨B3, rfl, t3, hb⟩; have HT3 := Lib.hid t3.ints; clear t3))
        | (go_split_ands; go_at_call 42; ((with_reducible refine (HEQ.out _ _ (by with_reducible assumption) (by with_reducible assumption)).mono ?_); rintro e w' ⟨rfl, hb⟩))
        | fail)
    all_goals
      go_split_ands
      have HLF : Hid (LW w [(X, [.int .i64 d, .int .i64 m, .int .i64 v, .int .i64 l, .slice (some ⟨B2, 0, none⟩) len0 len0]), (w.heap.size, [.int .i64 d, .int .i64 m, .int .i64 v, .int .i64 l, .slice a0 len0 cap0])] [(some ⟨B2, 0, none⟩, len0, ch)] w') := by with_reducible assumption
      go_wp2_with fail
      go_ret
      exact ⟨rfl, HLF.out.low⟩

end Go.Proofs.Ytmnddplkmljeaaa

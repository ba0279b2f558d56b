/- The exact laws on IsSickTable, WeeksAt, WorstAge and SickWeeks. (Written by wip/gen/sil.py.) -/
import Derived.Test.YtgfemcpjkdepdaaSit
import Derived.Test.YtgfemcpjkdepdaaBxs
import Derived.Test.YtgfemcpjkdepdaaSicQ
import Derived.Deep.RegionHeld3
namespace Go.Proofs.Ytgfemcpjkdepdaa
open Go.ChangeShapes Go.WideShapes Go.ChangeAt Go.RowKit
set_option linter.unusedVariables false
set_option linter.unusedSimpArgs false
set_option maxRecDepth 100000

set_option maxHeartbeats 1000000 in
theorem fnExactIsSickTable_walk (f0 : Int) (a0 : Option Addr) (len0 cap0 : Nat) (z0 : List Int)  (w : World) (w0 : IsRow .i64 w a0 len0 cap0 z0)  :
    Calls Try.prog 4 #[.agg #[.int .i64 f0, .slice a0 len0 cap0]] w fun e w' => e = .returned (.bool true) ∧ Below w.heap.size w w' := by
  have hmx := w0.len_le
  unfold maxLen at hmx
  by_cases hbig : (1048576 : Int) < len0
  · go_enter Try.func4, Try.ntmps4
    go_wp2_with fail
    refine (szK_big2 _ _ _ _ _ _ (by omega) (by omega) (by omega) hbig).mono ?_
    rintro e w1 ⟨rfl, hb⟩
    obtain ⟨hB, hc0, hc1⟩ := box2 hb
    have HB := Lib.hid hB
    clear hb hB
    go_wp2_with fail
    go_ret
    exact ⟨rfl, HB.out⟩
  · have h0 := w0.ints (by omega)
    obtain ⟨xs, hxs⟩ : ∃ xs, z0.take len0 = xs := ⟨_, rfl⟩
    rw [hxs] at h0
    have H := Lib.hid h0
    have HL := Lib.hid h0.len
    have hfit : (len0 : Int) ≤ 1048576 := by omega
    clear h0 w0 hxs hbig hmx
    go_enter Try.func4, Try.ntmps4
    go_wp2_with fail
    refine (szK_fit2 _ _ _ _ _ _ (by omega) (by omega) hfit).mono ?_
    rintro e w1 ⟨rfl, hb⟩
    obtain ⟨hB, hc0, hc1⟩ := box2 hb
    have HB := Lib.hid hB
    clear hb hB
    go_wp2_with fail
    refine (toK_any f0 xs _ _ _ _ (H.out.on HB.out) (by omega)).mono ?_
    rintro e w2 ⟨B1, rfl, hg1, hk1, hb⟩
    have hd0 := keep2 hb hc0
    have hd1 := keep2 hb hc1
    have HB2 := Lib.hid (HB.out.trans (hb.mono HB.out.size))
    have HK1 := Lib.hid hk1
    clear hb hk1 hc0 hc1 HB
    go_wp2_with fail
    refine (isS_spec f0 xs _ _ _  _ (HK1.out.ints HL.out (by omega))).mono ?_
    rintro e w3 ⟨rfl, hb⟩
    have hc0 := keep2 hb hd0
    have hc1 := keep2 hb hd1
    have HB3 := Lib.hid (HB2.out.trans (hb.mono HB2.out.size))
    clear hb hd0 hd1 HB2
    go_wp2_with fail
    refine (toK_any f0 xs _ _ _ _ (H.out.on HB3.out) (by omega)).mono ?_
    rintro e w4 ⟨B2, rfl, hg2, hk2, hb⟩
    have hd0 := keep2 hb hc0
    have hd1 := keep2 hb hc1
    have HB4 := Lib.hid (HB3.out.trans (hb.mono HB3.out.size))
    have HK2 := Lib.hid hk2
    clear hb hk2 hc0 hc1 HB3
    go_wp2_with fail
    refine (isS_impl f0 xs _ _ _  _ ((HK2.out.alloc _).ints HL.out (by omega)) (Nat.le_refl _)).mono ?_
    rintro e w5 ⟨rfl, hb⟩
    obtain ⟨hB, hx0, hx1⟩ := box2 hb
    have hc0 := keep2 hB hd0
    have hc1 := keep2 hB hd1
    have HB5 := Lib.hid (HB4.out.trans (hB.mono HB4.out.size))
    have HK5 := Lib.hid (HK2.out.step hB)
    have HXS : Hid (∀ W, Hid (Below w.heap.size w W) → Calls Try.prog 21 #[.agg #[.int .i64 f0, .slice a0 len0 cap0]] W (ToPost W f0 xs len0)) := Lib.hid (fun W hW => toK_any f0 xs _ _ _ W (H.out.on hW.out) (by omega))
    have HEQ : Hid (∀ W B3, Hid (Blk W B2 xs) → Hid (Blk W B3 xs) → Calls Try.prog 23 #[.agg #[.int .i64 f0, .slice (some ⟨B2, 0, none⟩) len0 len0], .agg #[.int .i64 f0, .slice (some ⟨B3, 0, none⟩) len0 len0]] W fun e w' => e = .returned (.bool true) ∧ Below W.heap.size W w') := Lib.hid (fun W B3 hW hV => eqK_same f0 xs _ _ _ _ _ _ W (hW.out.ints HL.out (by omega)) (hV.out.ints HL.out (by omega)))
    obtain ⟨X, hX⟩ : ∃ X, w4.heap.size = X := ⟨_, rfl⟩
    rw [hX] at hx0 hx1
    clear hb hB hd0 hd1 HK1 HK2 HB4
    go_wp2_with fail
    (try rw [hX])
    clear hX
    go_region_held3 (fun w' => w'.cell? ⟨X, 0, none⟩ = some (.int .i64 f0) ∧ w'.cell? ⟨X, 1, none⟩ = some (.slice (some ⟨B2, 0, none⟩) len0 len0) ∧ w'.cell? ⟨w.heap.size, 0, none⟩ = some (.int .i64 f0) ∧ w'.cell? ⟨w.heap.size, 1, none⟩ = some (.slice a0 len0 cap0) ∧ Hid (Below w.heap.size w w') ∧ Hid (Blk w' B2 xs))
      (first
        | (go_split_ands; exact ⟨by assumption, by assumption, by assumption, by assumption, by assumption, by assumption⟩)
        | (go_split_ands; exact ⟨by assumption, by assumption, by assumption, by assumption, Lib.hid (Below.drew (Hid.out (by assumption))), Lib.hid (Blk.drewN (Hid.out (by assumption)) 1)⟩)
        | (go_split_ands; exact ⟨keep2 hb (by assumption), keep2 hb (by assumption), keep2 hb (by assumption), keep2 hb (by assumption), Lib.hid (Below.trans (Hid.out (by assumption)) (Below.mono hb (Below.size (Hid.out (by assumption))))), Lib.hid (Blk.step (Hid.out (by assumption)) hb)⟩))
      (first
        | (go_split_ands; go_at_call 21; ((with_reducible refine (HXS.out _ (by assumption)).mono ?_); rintro e w' ⟨B3, rfl, hg3, hk3, hb⟩; have HK3 := Lib.hid hk3; clear hk3))
        | (go_split_ands; go_at_call 23; ((with_reducible refine (HEQ.out _ _ (by assumption) (by assumption)).mono ?_); rintro e w' ⟨rfl, hb⟩)))
    all_goals
      go_split_ands
      go_wp2_with fail
      go_ret
      exact ⟨rfl, Hid.out (by assumption)⟩

set_option maxHeartbeats 1000000 in
theorem fnExactWeeksAt_walk (f0 : Int) (a0 : Option Addr) (len0 cap0 : Nat) (z0 : List Int) (a1 : Int) (w : World) (w0 : IsRow .i64 w a0 len0 cap0 z0) (w1 : (Lit.int .i64 a1).wf = true) :
    Calls Try.prog 5 #[.agg #[.int .i64 f0, .slice a0 len0 cap0], .int .i64 a1] w fun e w' => e = .returned (.bool true) ∧ Below w.heap.size w w' := by
  have hmx := w0.len_le
  unfold maxLen at hmx
  by_cases hbig : (1048576 : Int) < len0
  · go_enter Try.func5, Try.ntmps5
    go_wp2_with fail
    refine (szK_big2 _ _ _ _ _ _ (by omega) (by omega) (by omega) hbig).mono ?_
    rintro e w1 ⟨rfl, hb⟩
    obtain ⟨hB, hc0, hc1⟩ := box2 hb
    have HB := Lib.hid hB
    clear hb hB
    go_wp2_with fail
    go_ret
    exact ⟨rfl, HB.out⟩
  · have h0 := w0.ints (by omega)
    obtain ⟨xs, hxs⟩ : ∃ xs, z0.take len0 = xs := ⟨_, rfl⟩
    rw [hxs] at h0
    have H := Lib.hid h0
    have HL := Lib.hid h0.len
    have hfit : (len0 : Int) ≤ 1048576 := by omega
    clear h0 w0 hxs hbig hmx
    go_enter Try.func5, Try.ntmps5
    go_wp2_with fail
    refine (szK_fit2 _ _ _ _ _ _ (by omega) (by omega) hfit).mono ?_
    rintro e w1 ⟨rfl, hb⟩
    obtain ⟨hB, hc0, hc1⟩ := box2 hb
    have HB := Lib.hid hB
    clear hb hB
    go_wp2_with fail
    refine (toK_any f0 xs _ _ _ _ (H.out.on HB.out) (by omega)).mono ?_
    rintro e w2 ⟨B1, rfl, hg1, hk1, hb⟩
    have hd0 := keep2 hb hc0
    have hd1 := keep2 hb hc1
    have HB2 := Lib.hid (HB.out.trans (hb.mono HB.out.size))
    have HK1 := Lib.hid hk1
    clear hb hk1 hc0 hc1 HB
    go_wp2_with fail
    refine (swe_any f0 xs _ _ _ a1 _ (HK1.out.ints HL.out (by omega))).mono ?_
    rintro e w3 ⟨rfl, hb⟩
    have hc0 := keep2 hb hd0
    have hc1 := keep2 hb hd1
    have HB3 := Lib.hid (HB2.out.trans (hb.mono HB2.out.size))
    clear hb hd0 hd1 HB2
    go_wp2_with fail
    refine (toK_any f0 xs _ _ _ _ (H.out.on HB3.out) (by omega)).mono ?_
    rintro e w4 ⟨B2, rfl, hg2, hk2, hb⟩
    have hd0 := keep2 hb hc0
    have hd1 := keep2 hb hc1
    have HB4 := Lib.hid (HB3.out.trans (hb.mono HB3.out.size))
    have HK2 := Lib.hid hk2
    clear hb hk2 hc0 hc1 HB3
    go_wp2_with fail
    refine (iwe_any f0 xs _ _ _ a1 _ ((HK2.out.alloc _).ints HL.out (by omega)) (Nat.le_refl _)).mono ?_
    rintro e w5 ⟨rfl, hb⟩
    obtain ⟨hB, hx0, hx1⟩ := box2 hb
    have hc0 := keep2 hB hd0
    have hc1 := keep2 hB hd1
    have HB5 := Lib.hid (HB4.out.trans (hB.mono HB4.out.size))
    have HK5 := Lib.hid (HK2.out.step hB)
    have HXS : Hid (∀ W, Hid (Below w.heap.size w W) → Calls Try.prog 21 #[.agg #[.int .i64 f0, .slice a0 len0 cap0]] W (ToPost W f0 xs len0)) := Lib.hid (fun W hW => toK_any f0 xs _ _ _ W (H.out.on hW.out) (by omega))
    have HEQ : Hid (∀ W B3, Hid (Blk W B2 xs) → Hid (Blk W B3 xs) → Calls Try.prog 23 #[.agg #[.int .i64 f0, .slice (some ⟨B2, 0, none⟩) len0 len0], .agg #[.int .i64 f0, .slice (some ⟨B3, 0, none⟩) len0 len0]] W fun e w' => e = .returned (.bool true) ∧ Below W.heap.size W w') := Lib.hid (fun W B3 hW hV => eqK_same f0 xs _ _ _ _ _ _ W (hW.out.ints HL.out (by omega)) (hV.out.ints HL.out (by omega)))
    obtain ⟨X, hX⟩ : ∃ X, w4.heap.size = X := ⟨_, rfl⟩
    rw [hX] at hx0 hx1
    clear hb hB hd0 hd1 HK1 HK2 HB4
    go_wp2_with fail
    (try rw [hX])
    clear hX
    go_region_held3 (fun w' => w'.cell? ⟨X, 0, none⟩ = some (.int .i64 f0) ∧ w'.cell? ⟨X, 1, none⟩ = some (.slice (some ⟨B2, 0, none⟩) len0 len0) ∧ w'.cell? ⟨w.heap.size, 0, none⟩ = some (.int .i64 f0) ∧ w'.cell? ⟨w.heap.size, 1, none⟩ = some (.slice a0 len0 cap0) ∧ Hid (Below w.heap.size w w') ∧ Hid (Blk w' B2 xs))
      (first
        | (go_split_ands; exact ⟨by assumption, by assumption, by assumption, by assumption, by assumption, by assumption⟩)
        | (go_split_ands; exact ⟨by assumption, by assumption, by assumption, by assumption, Lib.hid (Below.drew (Hid.out (by assumption))), Lib.hid (Blk.drewN (Hid.out (by assumption)) 1)⟩)
        | (go_split_ands; exact ⟨keep2 hb (by assumption), keep2 hb (by assumption), keep2 hb (by assumption), keep2 hb (by assumption), Lib.hid (Below.trans (Hid.out (by assumption)) (Below.mono hb (Below.size (Hid.out (by assumption))))), Lib.hid (Blk.step (Hid.out (by assumption)) hb)⟩))
      (first
        | (go_split_ands; go_at_call 21; ((with_reducible refine (HXS.out _ (by assumption)).mono ?_); rintro e w' ⟨B3, rfl, hg3, hk3, hb⟩; have HK3 := Lib.hid hk3; clear hk3))
        | (go_split_ands; go_at_call 23; ((with_reducible refine (HEQ.out _ _ (by assumption) (by assumption)).mono ?_); rintro e w' ⟨rfl, hb⟩)))
    all_goals
      go_split_ands
      go_wp2_with fail
      go_ret
      exact ⟨rfl, Hid.out (by assumption)⟩

set_option maxHeartbeats 1000000 in
theorem fnExactWorstAge_walk (f0 : Int) (a0 : Option Addr) (len0 cap0 : Nat) (z0 : List Int) (w : World) (w0 : IsRow .i64 w a0 len0 cap0 z0) :
    Calls Try.prog 9 #[.agg #[.int .i64 f0, .slice a0 len0 cap0]] w fun e w' => e = .returned (.bool true) ∧ Below w.heap.size w w' := by
  have hmx := w0.len_le
  unfold maxLen at hmx
  by_cases hbig : (1048576 : Int) < len0
  · go_enter Try.func9, Try.ntmps9
    go_wp2_with fail
    refine (szK_big2 _ _ _ _ _ _ (by omega) (by omega) (by omega) hbig).mono ?_
    rintro e w1 ⟨rfl, hb⟩
    obtain ⟨hB, hc0, hc1⟩ := box2 hb
    have HB := Lib.hid hB
    clear hb hB
    go_wp2_with fail
    go_ret
    exact ⟨rfl, HB.out⟩
  · have h0 := w0.ints (by omega)
    obtain ⟨xs, hxs⟩ : ∃ xs, z0.take len0 = xs := ⟨_, rfl⟩
    rw [hxs] at h0
    have H := Lib.hid h0
    have HL := Lib.hid h0.len
    have hfit : (len0 : Int) ≤ 1048576 := by omega
    clear h0 w0 hxs hbig hmx
    go_enter Try.func9, Try.ntmps9
    go_wp2_with fail
    refine (szK_fit2 _ _ _ _ _ _ (by omega) (by omega) hfit).mono ?_
    rintro e w1 ⟨rfl, hb⟩
    obtain ⟨hB, hc0, hc1⟩ := box2 hb
    have HB := Lib.hid hB
    clear hb hB
    go_wp2_with fail
    refine (toK_any f0 xs _ _ _ _ (H.out.on HB.out) (by omega)).mono ?_
    rintro e w2 ⟨B1, rfl, hg1, hk1, hb⟩
    have hd0 := keep2 hb hc0
    have hd1 := keep2 hb hc1
    have HB2 := Lib.hid (HB.out.trans (hb.mono HB.out.size))
    have HK1 := Lib.hid hk1
    clear hb hk1 hc0 hc1 HB
    go_wp2_with fail
    refine (swo_any f0 xs _ _ _ _ (HK1.out.ints HL.out (by omega))).mono ?_
    rintro e w3 ⟨rfl, hb⟩
    have hc0 := keep2 hb hd0
    have hc1 := keep2 hb hd1
    have HB3 := Lib.hid (HB2.out.trans (hb.mono HB2.out.size))
    clear hb hd0 hd1 HB2
    go_wp2_with fail
    refine (toK_any f0 xs _ _ _ _ (H.out.on HB3.out) (by omega)).mono ?_
    rintro e w4 ⟨B2, rfl, hg2, hk2, hb⟩
    have hd0 := keep2 hb hc0
    have hd1 := keep2 hb hc1
    have HB4 := Lib.hid (HB3.out.trans (hb.mono HB3.out.size))
    have HK2 := Lib.hid hk2
    clear hb hk2 hc0 hc1 HB3
    go_wp2_with fail
    refine (iwo_any f0 xs _ _ _ _ ((HK2.out.alloc _).ints HL.out (by omega)) (Nat.le_refl _)).mono ?_
    rintro e w5 ⟨rfl, hb⟩
    obtain ⟨hB, hx0, hx1⟩ := box2 hb
    have hc0 := keep2 hB hd0
    have hc1 := keep2 hB hd1
    have HB5 := Lib.hid (HB4.out.trans (hB.mono HB4.out.size))
    have HK5 := Lib.hid (HK2.out.step hB)
    have HXS : Hid (∀ W, Hid (Below w.heap.size w W) → Calls Try.prog 21 #[.agg #[.int .i64 f0, .slice a0 len0 cap0]] W (ToPost W f0 xs len0)) := Lib.hid (fun W hW => toK_any f0 xs _ _ _ W (H.out.on hW.out) (by omega))
    have HEQ : Hid (∀ W B3, Hid (Blk W B2 xs) → Hid (Blk W B3 xs) → Calls Try.prog 23 #[.agg #[.int .i64 f0, .slice (some ⟨B2, 0, none⟩) len0 len0], .agg #[.int .i64 f0, .slice (some ⟨B3, 0, none⟩) len0 len0]] W fun e w' => e = .returned (.bool true) ∧ Below W.heap.size W w') := Lib.hid (fun W B3 hW hV => eqK_same f0 xs _ _ _ _ _ _ W (hW.out.ints HL.out (by omega)) (hV.out.ints HL.out (by omega)))
    obtain ⟨X, hX⟩ : ∃ X, w4.heap.size = X := ⟨_, rfl⟩
    rw [hX] at hx0 hx1
    clear hb hB hd0 hd1 HK1 HK2 HB4
    go_wp2_with fail
    (try rw [hX])
    clear hX
    go_region_held3 (fun w' => w'.cell? ⟨X, 0, none⟩ = some (.int .i64 f0) ∧ w'.cell? ⟨X, 1, none⟩ = some (.slice (some ⟨B2, 0, none⟩) len0 len0) ∧ w'.cell? ⟨w.heap.size, 0, none⟩ = some (.int .i64 f0) ∧ w'.cell? ⟨w.heap.size, 1, none⟩ = some (.slice a0 len0 cap0) ∧ Hid (Below w.heap.size w w') ∧ Hid (Blk w' B2 xs))
      (first
        | (go_split_ands; exact ⟨by assumption, by assumption, by assumption, by assumption, by assumption, by assumption⟩)
        | (go_split_ands; exact ⟨by assumption, by assumption, by assumption, by assumption, Lib.hid (Below.drew (Hid.out (by assumption))), Lib.hid (Blk.drewN (Hid.out (by assumption)) 1)⟩)
        | (go_split_ands; exact ⟨keep2 hb (by assumption), keep2 hb (by assumption), keep2 hb (by assumption), keep2 hb (by assumption), Lib.hid (Below.trans (Hid.out (by assumption)) (Below.mono hb (Below.size (Hid.out (by assumption))))), Lib.hid (Blk.step (Hid.out (by assumption)) hb)⟩))
      (first
        | (go_split_ands; go_at_call 21; ((with_reducible refine (HXS.out _ (by assumption)).mono ?_); rintro e w' ⟨B3, rfl, hg3, hk3, hb⟩; have HK3 := Lib.hid hk3; clear hk3))
        | (go_split_ands; go_at_call 23; ((with_reducible refine (HEQ.out _ _ (by assumption) (by assumption)).mono ?_); rintro e w' ⟨rfl, hb⟩)))
    all_goals
      go_split_ands
      go_wp2_with fail
      go_ret
      exact ⟨rfl, Hid.out (by assumption)⟩

set_option maxHeartbeats 2000000 in
theorem fnExactSickWeeks_walk (f0 : Int) (a0 : Option Addr) (len0 cap0 : Nat) (z0 : List Int) (a1 : Option Addr) (len1 cap1 : Nat) (z1 : List Int) (w : World) (w0 : IsRow .i64 w a0 len0 cap0 z0) (w1 : IsRow .i64 w a1 len1 cap1 z1) :
    Calls Try.prog 8 #[.agg #[.int .i64 f0, .slice a0 len0 cap0], .slice a1 len1 cap1] w fun e w' => e = .returned (.bool true) ∧ Below w.heap.size w w' := by
  have hmx := w0.len_le
  have hmx1 := w1.len_le
  unfold maxLen at hmx hmx1
  by_cases hbig1 : (1048576 : Int) < len1
  · go_enter Try.func8, Try.ntmps8
    go_wp2_with fail
    go_ret
    exact ⟨rfl, box_b _ _⟩
  by_cases hbig : (1048576 : Int) < len0
  · go_enter Try.func8, Try.ntmps8
    go_wp2_with fail
    refine (szK_big2 _ _ _ _ _ _ (by omega) (by omega) (by omega) hbig).mono ?_
    rintro e w1 ⟨rfl, hb⟩
    obtain ⟨hB, hc0, hc1⟩ := box2 hb
    have HB := Lib.hid hB
    clear hb hB
    go_wp2_with fail
    go_ret
    exact ⟨rfl, HB.out⟩
  have h0 := w0.ints (by omega)
  have h1 := w1.ints (by omega)
  obtain ⟨xs, hxs⟩ : ∃ xs, z0.take len0 = xs := ⟨_, rfl⟩
  obtain ⟨zs, hzs⟩ : ∃ zs, z1.take len1 = zs := ⟨_, rfl⟩
  rw [hxs] at h0
  rw [hzs] at h1
  have H := Lib.hid h0
  have K := Lib.hid h1
  have HL := Lib.hid h0.len
  have HM := Lib.hid h1.len
  have hfit : (len0 : Int) ≤ 1048576 := by omega
  have hfit1 : len1 ≤ 1048576 := by omega
  clear h0 h1 w0 w1 hxs hzs hbig hmx hmx1
  obtain ⟨A, hA⟩ : ∃ y_, swV f0 xs zs = y_ := ⟨_, rfl⟩
  obtain ⟨E, hE⟩ : ∃ y_, swE f0 xs zs = y_ := ⟨_, rfl⟩
  have CS : Hid (∀ W b1 b2, Hid (Blk W b1 xs) → Hid (Blk W b2 zs) → Calls Try.prog 13 #[.agg #[.int .i64 f0, .slice (some ⟨b1, 0, none⟩) len0 len0], .slice (some ⟨b2, 0, none⟩) len1 len1] W fun e w' => e = .returned (.tuple #[.int .i64 A, .int .i64 E]) ∧ Below W.heap.size W w') :=
    Lib.hid (fun W b1 b2 hk hj => by have := ssw_any f0 xs (some ⟨b1, 0, none⟩) len0 len0 zs (some ⟨b2, 0, none⟩) len1 len1 W (hk.out.ints HL.out (by omega)) (hj.out.ints HM.out (by omega)); unfold IIPost at this; rw [hA, hE] at this; exact this)
  have CI : Hid (∀ W b1 b2, Hid (Blk W b1 xs) → Hid (Blk W b2 zs) → Calls Try.prog 12 #[.agg #[.int .i64 f0, .slice (some ⟨b1, 0, none⟩) len0 len0], .slice (some ⟨b2, 0, none⟩) len1 len1] W fun e w' => e = .returned (.tuple #[.int .i64 A, .int .i64 E]) ∧ Below W.heap.size W w') :=
    Lib.hid (fun W b1 b2 hk hj => by have := isw_any f0 xs (some ⟨b1, 0, none⟩) len0 len0 zs (some ⟨b2, 0, none⟩) len1 len1 W (hk.out.ints HL.out (by omega)) (hj.out.ints HM.out (by omega)) (Nat.le_refl _) (Nat.le_refl _); unfold IIPost at this; rw [hA, hE] at this; exact this)
  have TX : Hid (∀ W, Hid (Below w.heap.size w W) → Calls Try.prog 21 #[.agg #[.int .i64 f0, .slice a0 len0 cap0]] W (ToPost W f0 xs len0)) := Lib.hid (fun W hW => toK_any f0 xs _ _ _ W (H.out.on hW.out) (by omega))
  have TZ : Hid (∀ W, Hid (Below w.heap.size w W) → Calls Try.prog 31 #[.slice a1 len1 cap1] W (MadePost W len1 zs)) := Lib.hid (fun W hW => toS_any zs _ _ _ W (K.out.on hW.out) hfit1)
  have EX : Hid (∀ W b1 b2, Hid (Blk W b1 xs) → Hid (Blk W b2 xs) → Calls Try.prog 23 #[.agg #[.int .i64 f0, .slice (some ⟨b1, 0, none⟩) len0 len0], .agg #[.int .i64 f0, .slice (some ⟨b2, 0, none⟩) len0 len0]] W fun e w' => e = .returned (.bool true) ∧ Below W.heap.size W w') := Lib.hid (fun W b1 b2 hW hV => eqK_same f0 xs _ _ _ _ _ _ W (hW.out.ints HL.out (by omega)) (hV.out.ints HL.out (by omega)))
  have EZ : Hid (∀ W b1 b2, Hid (Blk W b1 zs) → Hid (Blk W b2 zs) → Calls Try.prog 32 #[.slice (some ⟨b1, 0, none⟩) len1 len1, .slice (some ⟨b2, 0, none⟩) len1 len1] W fun e w' => e = .returned (.bool true) ∧ Below W.heap.size W w') := Lib.hid (fun W b1 b2 hW hV => (eqS_any zs zs _ _ _ _ _ _ W (hW.out.ints HM.out (by omega)) (hV.out.ints HM.out (by omega))).mono fun e w' hh => by
    obtain ⟨rfl, n, rfl⟩ := hh
    exact ⟨by simp, below_drewN (Below.refl _ _) n⟩)
  clear hA hE
  go_enter Try.func8, Try.ntmps8
  go_wp2_with fail
  refine (szK_fit2 _ _ _ _ _ _ (by omega) (by omega) hfit).mono ?_
  rintro e w1 ⟨rfl, hb⟩
  obtain ⟨hB, hc0, hc1⟩ := box2 hb
  have HB := Lib.hid hB
  clear hb hB
  go_wp2_with fail
  with_reducible refine (TX.out _ HB).mono ?_
  rintro e w2 ⟨B1, rfl, hg1, hk1, hb⟩
  have HB := Lib.hid (HB.out.trans (hb.mono HB.out.size))
  have HK1 := Lib.hid hk1
  have hc0 := keep2 hb hc0
  have hc1 := keep2 hb hc1
  clear hb hk1 hg1
  go_wp2_with fail
  with_reducible refine (TZ.out _ HB).mono ?_
  rintro e w3 ⟨rfl, hk2, hz2, hb⟩
  have HB := Lib.hid (HB.out.trans (hb.mono HB.out.size))
  have HK1 := Lib.hid (HK1.out.step hb)
  have HK2 := Lib.hid hk2
  have hc0 := keep2 hb hc0
  have hc1 := keep2 hb hc1
  clear hb hk2 hz2
  go_wp2_with fail
  with_reducible refine (CS.out _ _ _ HK1 HK2).mono ?_
  rintro e w4 ⟨rfl, hb⟩
  have HB := Lib.hid (HB.out.trans (hb.mono HB.out.size))
  have hc0 := keep2 hb hc0
  have hc1 := keep2 hb hc1
  clear hb HK1 HK2 CS
  go_wp2_with fail
  with_reducible refine (TX.out _ HB).mono ?_
  rintro e w5 ⟨B2, rfl, hg1, hk1, hb⟩
  have hbx := box_b w5 (.cells #[.int .i64 f0, .slice (some ⟨B2, 0, none⟩) len0 len0] 26)
  have hp : Bx (w5.alloc (.cells #[.int .i64 f0, .slice (some ⟨B2, 0, none⟩) len0 len0] 26)) w5.heap.size [.int .i64 f0, .slice (some ⟨B2, 0, none⟩) len0 len0] := Bx.new w5 _ _
  have HB := Lib.hid ((HB.out.trans (hb.mono HB.out.size)).trans (hbx.mono (HB.out.trans (hb.mono HB.out.size)).size))
  have HK1 := Lib.hid (hk1.step hbx)
  have hc0 := keep2 hbx (keep2 hb hc0)
  have hc1 := keep2 hbx (keep2 hb hc1)
  obtain ⟨P1, hP1⟩ : ∃ y_, w5.heap.size = y_ := ⟨_, rfl⟩
  rw [hP1] at hp
  clear hb hbx hk1 hg1
  go_wp2_with fail
  (try rw [hP1])
  generalize (w5.alloc (.cells #[.int .i64 f0, .slice (some ⟨B2, 0, none⟩) len0 len0] 26)) = v5 at HB HK1 hp hc0 hc1 ⊢
  clear hP1
  with_reducible refine (TZ.out _ HB).mono ?_
  rintro e w6 ⟨rfl, hk2, hz2, hb⟩
  obtain ⟨B3, hB3⟩ : ∃ y_, v5.heap.size = y_ := ⟨_, rfl⟩
  rw [hB3] at hk2
  have HB := Lib.hid (HB.out.trans (hb.mono HB.out.size))
  have HK1 := Lib.hid (HK1.out.step hb)
  have HK2 := Lib.hid hk2
  have hc0 := keep2 hb hc0
  have hc1 := keep2 hb hc1
  have hp := hp.on hb
  obtain ⟨p0, p1⟩ := hp.two
  (try rw [hB3])
  clear hb hk2 hz2 hB3
  go_wp2_with fail
  with_reducible refine (CI.out _ _ _ HK1 HK2).mono ?_
  rintro e w7 ⟨rfl, hb⟩
  have HB := Lib.hid (HB.out.trans (hb.mono HB.out.size))
  have HK1 := Lib.hid (HK1.out.step hb)
  have HK2 := Lib.hid (HK2.out.step hb)
  have hc0 := keep2 hb hc0
  have hc1 := keep2 hb hc1
  have hp := hp.on hb
  clear hb p0 p1 CI
  obtain ⟨p0, p1⟩ := hp.two
  clear hp
  go_wp2_with fail
  go_region_held3 (fun w' => w'.cell? ⟨P1, 0, none⟩ = some (.int .i64 f0) ∧ w'.cell? ⟨P1, 1, none⟩ = some (.slice (some ⟨B2, 0, none⟩) len0 len0) ∧ w'.cell? ⟨w.heap.size, 0, none⟩ = some (.int .i64 f0) ∧ w'.cell? ⟨w.heap.size, 1, none⟩ = some (.slice a0 len0 cap0) ∧ Hid (Below w.heap.size w w') ∧ Hid (Blk w' B2 xs) ∧ Hid (Blk w' B3 zs))
    (first
      | (go_split_ands; exact ⟨by with_reducible assumption, by with_reducible assumption, by with_reducible assumption, by with_reducible assumption, by with_reducible assumption, by with_reducible assumption, by with_reducible assumption⟩)
      | (go_split_ands; exact ⟨cell_drew (by with_reducible assumption), cell_drew (by with_reducible assumption), cell_drew (by with_reducible assumption), cell_drew (by with_reducible assumption), Lib.hid (Below.drew (Hid.out (by with_reducible assumption))), Lib.hid (Blk.drewN (Hid.out (by with_reducible assumption)) 1), Lib.hid (Blk.drewN (Hid.out (by with_reducible assumption)) 1)⟩)
      | (go_split_ands; exact ⟨keep2 hb (by with_reducible assumption), keep2 hb (by with_reducible assumption), keep2 hb (by with_reducible assumption), keep2 hb (by with_reducible assumption), Lib.hid (Below.trans (Hid.out (by with_reducible assumption)) (Below.mono hb (Below.size (Hid.out (by with_reducible assumption))))), Lib.hid (Blk.step (Hid.out (by with_reducible assumption)) hb), Lib.hid (Blk.step (Hid.out (by with_reducible assumption)) hb)⟩)
      | fail)
    (first
      | (go_split_ands; go_at_call 21; ((with_reducible refine (TX.out _ (by with_reducible assumption)).mono ?_); rintro e w' ⟨B4, rfl, hg4, hk4, hb⟩; have HK4 := Lib.hid hk4; clear hk4))
      | (go_split_ands; go_at_call 23; ((with_reducible refine (EX.out _ _ _ (by with_reducible assumption) HK4).mono ?_); rintro e w' ⟨rfl, hb⟩))
      | fail)
  all_goals
    go_split_ands
    have HB : Hid (Below w.heap.size w _) := (by with_reducible assumption)
    have HK3 : Hid (Blk _ B3 zs) := (by with_reducible assumption)
    go_wp2_with fail
    with_reducible refine (TZ.out _ HB).mono ?_
    rintro e w9 ⟨rfl, hk5, hz5, hb⟩
    have HB := Lib.hid (HB.out.trans (hb.mono HB.out.size))
    have HK3 := Lib.hid (HK3.out.step hb)
    have HK5 := Lib.hid hk5
    clear hb hk5 hz5
    go_wp2_with fail
    with_reducible refine (EZ.out _ _ _ HK3 HK5).mono ?_
    rintro e w10 ⟨rfl, hb⟩
    have HB := Lib.hid (HB.out.trans (hb.mono HB.out.size))
    clear hb
    go_wp2_with fail
    go_ret
    exact ⟨rfl, HB.out⟩

end Go.Proofs.Ytgfemcpjkdepdaa

/- The exact laws on AssurancePrice, LevelPremium, SumFor, AssuranceNumber, TermPart. (Written by wip/gen/asx.py.) -/
import Derived.Test.YtnimmkbpcmgeaaaAsi
import Derived.Test.YtnimmkbpcmgeaaaTabL
import Derived.Deep.RegionHeld3
namespace Go.Proofs.Ytnimmkbpcmgeaaa
open Go.ChangeShapes Go.WideShapes Go.ChangeAt Go.RowKit
set_option linter.unusedVariables false
set_option maxRecDepth 100000

set_option maxHeartbeats 1000000 in
theorem fnExactAssurancePrice_walk (f0 : Int) (a0 : Option Addr) (len0 cap0 : Nat) (z0 : List Int) (a1 : Int) (a2 : Int) (a3 : Int) (a4 : Int) (a5 : Int) (w : World) (w0 : IsRow .i64 w a0 len0 cap0 z0) (w1 : (Lit.int .i64 a1).wf = true) (w2 : (Lit.int .i64 a2).wf = true) (w3 : (Lit.int .i64 a3).wf = true) (w4 : (Lit.int .i64 a4).wf = true) (w5 : (Lit.int .i64 a5).wf = true) :
    Calls Try.prog 4 #[.agg #[.int .i64 f0, .slice a0 len0 cap0], .int .i64 a1, .int .i64 a2, .int .i64 a3, .int .i64 a4, .int .i64 a5] w fun e w' => e = .returned (.bool true) ∧ Below w.heap.size w w' := by
  have hmx := w0.len_le
  unfold maxLen at hmx
  by_cases hbig : (1048576 : Int) < len0
  · go_enter Try.func4, Try.ntmps4
    go_wp2_with fail
    refine (szT_big _ _ _ _ _ (by omega) hbig).mono ?_
    rintro e w1 ⟨rfl, hb⟩
    obtain ⟨hB, hc0, hc1⟩ := box2 hb
    have HB := Lib.hid hB
    clear hb hB
    go_wp2_with fail
    go_ret
    exact ⟨rfl, HB.out⟩
  · have h0 := w0.ints (by omega)
    obtain ⟨xs, hxs⟩ : ∃ xs, z0.take len0 = xs := ⟨_, rfl⟩
    rw [hxs] at h0
    have H := Lib.hid h0
    have HL := Lib.hid h0.len
    have hfit : (len0 : Int) ≤ 1048576 := by omega
    clear h0 w0 w1 w2 w3 w4 w5 hxs hbig hmx
    obtain ⟨A, hA⟩ : ∃ y_, priV a1 f0 xs a2 a3 a4 a5 = y_ := ⟨_, rfl⟩
    obtain ⟨E, hE⟩ : ∃ y_, asE a1 f0 xs a2 a3 a4 a5 = y_ := ⟨_, rfl⟩
    have CS : Hid (∀ W b c, Hid (Blk W b xs) → c = len0 → Calls Try.prog 20 #[.agg #[.int .i64 f0, .slice (some ⟨b, 0, none⟩) len0 c], .int .i64 a1, .int .i64 a2, .int .i64 a3, .int .i64 a4, .int .i64 a5] W fun e w' => e = .returned (.tuple #[.int .i64 A, .int .i64 E]) ∧ Below W.heap.size W w') :=
      Lib.hid (fun W b c hk hc => by have := spri_any a1 f0 xs (some ⟨b, 0, none⟩) len0 c a2 a3 a4 a5 W (hk.out.ints HL.out (by omega)); unfold IIPost at this; rw [hA, hE] at this; exact this)
    have CI : Hid (∀ W b c, Hid (Blk W b xs) → c = len0 → Calls Try.prog 18 #[.agg #[.int .i64 f0, .slice (some ⟨b, 0, none⟩) len0 c], .int .i64 a1, .int .i64 a2, .int .i64 a3, .int .i64 a4, .int .i64 a5] W fun e w' => e = .returned (.tuple #[.int .i64 A, .int .i64 E]) ∧ Below W.heap.size W w') :=
      Lib.hid (fun W b c hk hc => by have := ipri_any a1 f0 xs (some ⟨b, 0, none⟩) len0 c a2 a3 a4 a5 W (hk.out.ints HL.out (by omega)) (by omega); unfold IIPost at this; rw [hA, hE] at this; exact this)
    clear hA hE
    go_enter Try.func4, Try.ntmps4
    go_wp2_with fail
    refine (szT_fit _ _ _ _ _ hfit).mono ?_
    rintro e w1 ⟨rfl, hb⟩
    obtain ⟨hB, hc0, hc1⟩ := box2 hb
    have HB := Lib.hid hB
    clear hb hB
    go_wp2_with fail
    refine (toT_any f0 xs _ _ _ _ (H.out.on HB.out) (by omega)).mono ?_
    rintro e w2 ⟨B1, rfl, hg1, hk1, hb⟩
    have hd0 := keep2 hb hc0
    have hd1 := keep2 hb hc1
    have HB2 := Lib.hid (HB.out.trans (hb.mono HB.out.size))
    have HK1 := Lib.hid hk1
    clear hb hk1 hc0 hc1 HB
    go_wp2_with fail
    refine (CS.out _ _ _ HK1 rfl).mono ?_
    rintro e w3 ⟨rfl, hb⟩
    have hc0 := keep2 hb hd0
    have hc1 := keep2 hb hd1
    have HB3 := Lib.hid (HB2.out.trans (hb.mono HB2.out.size))
    clear hb hd0 hd1 HB2 CS
    go_wp2_with fail
    refine (toT_any f0 xs _ _ _ _ (H.out.on HB3.out) (by omega)).mono ?_
    rintro e w4 ⟨B2, rfl, hg2, hk2, hb⟩
    have hd0 := keep2 hb hc0
    have hd1 := keep2 hb hc1
    have HB4 := Lib.hid (HB3.out.trans (hb.mono HB3.out.size))
    have HK2 := Lib.hid hk2
    clear hb hk2 hc0 hc1 HB3
    go_wp2_with fail
    refine (CI.out _ _ _ (Lib.hid (HK2.out.alloc _)) rfl).mono ?_
    rintro e w5 ⟨rfl, hb⟩
    obtain ⟨hB, hx0, hx1⟩ := box2 hb
    have hc0 := keep2 hB hd0
    have hc1 := keep2 hB hd1
    have HB5 := Lib.hid (HB4.out.trans (hB.mono HB4.out.size))
    have HK5 := Lib.hid (HK2.out.step hB)
    have HXS : Hid (∀ W, Hid (Below w.heap.size w W) → Calls Try.prog 21 #[.agg #[.int .i64 f0, .slice a0 len0 cap0]] W (ToPost W f0 xs len0)) := Lib.hid (fun W hW => toT_any f0 xs _ _ _ W (H.out.on hW.out) (by omega))
    have HEQ : Hid (∀ W B3, Hid (Blk W B2 xs) → Hid (Blk W B3 xs) → Calls Try.prog 22 #[.agg #[.int .i64 f0, .slice (some ⟨B2, 0, none⟩) len0 len0], .agg #[.int .i64 f0, .slice (some ⟨B3, 0, none⟩) len0 len0]] W fun e w' => e = .returned (.bool true) ∧ Below W.heap.size W w') := Lib.hid (fun W B3 hW hV => eqT_same f0 xs _ _ _ _ _ _ W (hW.out.ints HL.out (by omega)) (hV.out.ints HL.out (by omega)))
    obtain ⟨X, hX⟩ : ∃ X, w4.heap.size = X := ⟨_, rfl⟩
    rw [hX] at hx0 hx1
    clear hb hB hd0 hd1 HK1 HK2 HB4
    go_wp2_with fail
    (try rw [hX])
    clear hX
    go_region_held3 (fun w' => w'.cell? ⟨X, 0, none⟩ = some (.int .i64 f0) ∧ w'.cell? ⟨X, 1, none⟩ = some (.slice (some ⟨B2, 0, none⟩) len0 len0) ∧ w'.cell? ⟨w.heap.size, 0, none⟩ = some (.int .i64 f0) ∧ w'.cell? ⟨w.heap.size, 1, none⟩ = some (.slice a0 len0 cap0) ∧ Hid (Below w.heap.size w w') ∧ Hid (Blk w' B2 xs))
      (first
        | (go_split_ands; exact ⟨by with_reducible assumption, by with_reducible assumption, by with_reducible assumption, by with_reducible assumption, by with_reducible assumption, by with_reducible assumption⟩)
        | (go_split_ands; exact ⟨cell_drew (by with_reducible assumption), cell_drew (by with_reducible assumption), cell_drew (by with_reducible assumption), cell_drew (by with_reducible assumption), Lib.hid (Below.drew (Hid.out (by with_reducible assumption))), Lib.hid (Blk.drewN (Hid.out (by with_reducible assumption)) 1)⟩)
        | (go_split_ands; exact ⟨keep2 hb (by with_reducible assumption), keep2 hb (by with_reducible assumption), keep2 hb (by with_reducible assumption), keep2 hb (by with_reducible assumption), Lib.hid (Below.trans (Hid.out (by with_reducible assumption)) (Below.mono hb (Below.size (Hid.out (by with_reducible assumption))))), Lib.hid (Blk.step (Hid.out (by with_reducible assumption)) hb)⟩))
      (first
        | (go_split_ands; go_at_call 21; ((with_reducible refine (HXS.out _ (by with_reducible assumption)).mono ?_); rintro e w' ⟨B3, rfl, hg3, hk3, hb⟩; have HK3 := Lib.hid hk3; clear hk3))
        | (go_split_ands; go_at_call 22; ((with_reducible refine (HEQ.out _ _ (by with_reducible assumption) (by with_reducible assumption)).mono ?_); rintro e w' ⟨rfl, hb⟩)))
    all_goals
      go_split_ands
      go_wp2_with fail
      go_ret
      exact ⟨rfl, Hid.out (by with_reducible assumption)⟩

set_option maxHeartbeats 1000000 in
theorem fnExactLevelPremium_walk (f0 : Int) (a0 : Option Addr) (len0 cap0 : Nat) (z0 : List Int) (a1 : Int) (a2 : Int) (a3 : Int) (a4 : Int) (a5 : Int) (w : World) (w0 : IsRow .i64 w a0 len0 cap0 z0) (w1 : (Lit.int .i64 a1).wf = true) (w2 : (Lit.int .i64 a2).wf = true) (w3 : (Lit.int .i64 a3).wf = true) (w4 : (Lit.int .i64 a4).wf = true) (w5 : (Lit.int .i64 a5).wf = true) :
    Calls Try.prog 5 #[.agg #[.int .i64 f0, .slice a0 len0 cap0], .int .i64 a1, .int .i64 a2, .int .i64 a3, .int .i64 a4, .int .i64 a5] w fun e w' => e = .returned (.bool true) ∧ Below w.heap.size w w' := by
  have hmx := w0.len_le
  unfold maxLen at hmx
  by_cases hbig : (1048576 : Int) < len0
  · go_enter Try.func5, Try.ntmps5
    go_wp2_with fail
    refine (szT_big _ _ _ _ _ (by omega) hbig).mono ?_
    rintro e w1 ⟨rfl, hb⟩
    obtain ⟨hB, hc0, hc1⟩ := box2 hb
    have HB := Lib.hid hB
    clear hb hB
    go_wp2_with fail
    go_ret
    exact ⟨rfl, HB.out⟩
  · have h0 := w0.ints (by omega)
    obtain ⟨xs, hxs⟩ : ∃ xs, z0.take len0 = xs := ⟨_, rfl⟩
    rw [hxs] at h0
    have H := Lib.hid h0
    have HL := Lib.hid h0.len
    have hfit : (len0 : Int) ≤ 1048576 := by omega
    clear h0 w0 w1 w2 w3 w4 w5 hxs hbig hmx
    obtain ⟨A, hA⟩ : ∃ y_, levV a1 f0 xs a2 a3 a4 a5 = y_ := ⟨_, rfl⟩
    obtain ⟨E, hE⟩ : ∃ y_, asE a1 f0 xs a2 a3 a4 a5 = y_ := ⟨_, rfl⟩
    have CS : Hid (∀ W b c, Hid (Blk W b xs) → c = len0 → Calls Try.prog 23 #[.agg #[.int .i64 f0, .slice (some ⟨b, 0, none⟩) len0 c], .int .i64 a1, .int .i64 a2, .int .i64 a3, .int .i64 a4, .int .i64 a5] W fun e w' => e = .returned (.tuple #[.int .i64 A, .int .i64 E]) ∧ Below W.heap.size W w') :=
      Lib.hid (fun W b c hk hc => by have := slev_any a1 f0 xs (some ⟨b, 0, none⟩) len0 c a2 a3 a4 a5 W (hk.out.ints HL.out (by omega)); unfold IIPost at this; rw [hA, hE] at this; exact this)
    have CI : Hid (∀ W b c, Hid (Blk W b xs) → c = len0 → Calls Try.prog 24 #[.agg #[.int .i64 f0, .slice (some ⟨b, 0, none⟩) len0 c], .int .i64 a1, .int .i64 a2, .int .i64 a3, .int .i64 a4, .int .i64 a5] W fun e w' => e = .returned (.tuple #[.int .i64 A, .int .i64 E]) ∧ Below W.heap.size W w') :=
      Lib.hid (fun W b c hk hc => by have := ilev_any a1 f0 xs (some ⟨b, 0, none⟩) len0 c a2 a3 a4 a5 W (hk.out.ints HL.out (by omega)) (by omega); unfold IIPost at this; rw [hA, hE] at this; exact this)
    clear hA hE
    go_enter Try.func5, Try.ntmps5
    go_wp2_with fail
    refine (szT_fit _ _ _ _ _ hfit).mono ?_
    rintro e w1 ⟨rfl, hb⟩
    obtain ⟨hB, hc0, hc1⟩ := box2 hb
    have HB := Lib.hid hB
    clear hb hB
    go_wp2_with fail
    refine (toT_any f0 xs _ _ _ _ (H.out.on HB.out) (by omega)).mono ?_
    rintro e w2 ⟨B1, rfl, hg1, hk1, hb⟩
    have hd0 := keep2 hb hc0
    have hd1 := keep2 hb hc1
    have HB2 := Lib.hid (HB.out.trans (hb.mono HB.out.size))
    have HK1 := Lib.hid hk1
    clear hb hk1 hc0 hc1 HB
    go_wp2_with fail
    refine (CS.out _ _ _ HK1 rfl).mono ?_
    rintro e w3 ⟨rfl, hb⟩
    have hc0 := keep2 hb hd0
    have hc1 := keep2 hb hd1
    have HB3 := Lib.hid (HB2.out.trans (hb.mono HB2.out.size))
    clear hb hd0 hd1 HB2 CS
    go_wp2_with fail
    refine (toT_any f0 xs _ _ _ _ (H.out.on HB3.out) (by omega)).mono ?_
    rintro e w4 ⟨B2, rfl, hg2, hk2, hb⟩
    have hd0 := keep2 hb hc0
    have hd1 := keep2 hb hc1
    have HB4 := Lib.hid (HB3.out.trans (hb.mono HB3.out.size))
    have HK2 := Lib.hid hk2
    clear hb hk2 hc0 hc1 HB3
    go_wp2_with fail
    refine (CI.out _ _ _ (Lib.hid (HK2.out.alloc _)) rfl).mono ?_
    rintro e w5 ⟨rfl, hb⟩
    obtain ⟨hB, hx0, hx1⟩ := box2 hb
    have hc0 := keep2 hB hd0
    have hc1 := keep2 hB hd1
    have HB5 := Lib.hid (HB4.out.trans (hB.mono HB4.out.size))
    have HK5 := Lib.hid (HK2.out.step hB)
    have HXS : Hid (∀ W, Hid (Below w.heap.size w W) → Calls Try.prog 21 #[.agg #[.int .i64 f0, .slice a0 len0 cap0]] W (ToPost W f0 xs len0)) := Lib.hid (fun W hW => toT_any f0 xs _ _ _ W (H.out.on hW.out) (by omega))
    have HEQ : Hid (∀ W B3, Hid (Blk W B2 xs) → Hid (Blk W B3 xs) → Calls Try.prog 22 #[.agg #[.int .i64 f0, .slice (some ⟨B2, 0, none⟩) len0 len0], .agg #[.int .i64 f0, .slice (some ⟨B3, 0, none⟩) len0 len0]] W fun e w' => e = .returned (.bool true) ∧ Below W.heap.size W w') := Lib.hid (fun W B3 hW hV => eqT_same f0 xs _ _ _ _ _ _ W (hW.out.ints HL.out (by omega)) (hV.out.ints HL.out (by omega)))
    obtain ⟨X, hX⟩ : ∃ X, w4.heap.size = X := ⟨_, rfl⟩
    rw [hX] at hx0 hx1
    clear hb hB hd0 hd1 HK1 HK2 HB4
    go_wp2_with fail
    (try rw [hX])
    clear hX
    go_region_held3 (fun w' => w'.cell? ⟨X, 0, none⟩ = some (.int .i64 f0) ∧ w'.cell? ⟨X, 1, none⟩ = some (.slice (some ⟨B2, 0, none⟩) len0 len0) ∧ w'.cell? ⟨w.heap.size, 0, none⟩ = some (.int .i64 f0) ∧ w'.cell? ⟨w.heap.size, 1, none⟩ = some (.slice a0 len0 cap0) ∧ Hid (Below w.heap.size w w') ∧ Hid (Blk w' B2 xs))
      (first
        | (go_split_ands; exact ⟨by with_reducible assumption, by with_reducible assumption, by with_reducible assumption, by with_reducible assumption, by with_reducible assumption, by with_reducible assumption⟩)
        | (go_split_ands; exact ⟨cell_drew (by with_reducible assumption), cell_drew (by with_reducible assumption), cell_drew (by with_reducible assumption), cell_drew (by with_reducible assumption), Lib.hid (Below.drew (Hid.out (by with_reducible assumption))), Lib.hid (Blk.drewN (Hid.out (by with_reducible assumption)) 1)⟩)
        | (go_split_ands; exact ⟨keep2 hb (by with_reducible assumption), keep2 hb (by with_reducible assumption), keep2 hb (by with_reducible assumption), keep2 hb (by with_reducible assumption), Lib.hid (Below.trans (Hid.out (by with_reducible assumption)) (Below.mono hb (Below.size (Hid.out (by with_reducible assumption))))), Lib.hid (Blk.step (Hid.out (by with_reducible assumption)) hb)⟩))
      (first
        | (go_split_ands; go_at_call 21; ((with_reducible refine (HXS.out _ (by with_reducible assumption)).mono ?_); rintro e w' ⟨B3, rfl, hg3, hk3, hb⟩; have HK3 := Lib.hid hk3; clear hk3))
        | (go_split_ands; go_at_call 22; ((with_reducible refine (HEQ.out _ _ (by with_reducible assumption) (by with_reducible assumption)).mono ?_); rintro e w' ⟨rfl, hb⟩)))
    all_goals
      go_split_ands
      go_wp2_with fail
      go_ret
      exact ⟨rfl, Hid.out (by with_reducible assumption)⟩

set_option maxHeartbeats 1000000 in
theorem fnExactSumFor_walk (f0 : Int) (a0 : Option Addr) (len0 cap0 : Nat) (z0 : List Int) (a1 : Int) (a2 : Int) (a3 : Int) (a4 : Int) (a5 : Int) (w : World) (w0 : IsRow .i64 w a0 len0 cap0 z0) (w1 : (Lit.int .i64 a1).wf = true) (w2 : (Lit.int .i64 a2).wf = true) (w3 : (Lit.int .i64 a3).wf = true) (w4 : (Lit.int .i64 a4).wf = true) (w5 : (Lit.int .i64 a5).wf = true) :
    Calls Try.prog 6 #[.agg #[.int .i64 f0, .slice a0 len0 cap0], .int .i64 a1, .int .i64 a2, .int .i64 a3, .int .i64 a4, .int .i64 a5] w fun e w' => e = .returned (.bool true) ∧ Below w.heap.size w w' := by
  have hmx := w0.len_le
  unfold maxLen at hmx
  by_cases hbig : (1048576 : Int) < len0
  · go_enter Try.func6, Try.ntmps6
    go_wp2_with fail
    refine (szT_big _ _ _ _ _ (by omega) hbig).mono ?_
    rintro e w1 ⟨rfl, hb⟩
    obtain ⟨hB, hc0, hc1⟩ := box2 hb
    have HB := Lib.hid hB
    clear hb hB
    go_wp2_with fail
    go_ret
    exact ⟨rfl, HB.out⟩
  · have h0 := w0.ints (by omega)
    obtain ⟨xs, hxs⟩ : ∃ xs, z0.take len0 = xs := ⟨_, rfl⟩
    rw [hxs] at h0
    have H := Lib.hid h0
    have HL := Lib.hid h0.len
    have hfit : (len0 : Int) ≤ 1048576 := by omega
    clear h0 w0 w1 w2 w3 w4 w5 hxs hbig hmx
    obtain ⟨A, hA⟩ : ∃ y_, sumV a1 f0 xs a2 a3 a4 a5 = y_ := ⟨_, rfl⟩
    obtain ⟨E, hE⟩ : ∃ y_, sumE a1 f0 xs a2 a3 a4 a5 = y_ := ⟨_, rfl⟩
    have CS : Hid (∀ W b c, Hid (Blk W b xs) → c = len0 → Calls Try.prog 25 #[.agg #[.int .i64 f0, .slice (some ⟨b, 0, none⟩) len0 c], .int .i64 a1, .int .i64 a2, .int .i64 a3, .int .i64 a4, .int .i64 a5] W fun e w' => e = .returned (.tuple #[.int .i64 A, .int .i64 E]) ∧ Below W.heap.size W w') :=
      Lib.hid (fun W b c hk hc => by have := ssumfor_any a1 f0 xs (some ⟨b, 0, none⟩) len0 c a2 a3 a4 a5 W (hk.out.ints HL.out (by omega)); unfold IIPost at this; rw [hA, hE] at this; exact this)
    have CI : Hid (∀ W b c, Hid (Blk W b xs) → c = len0 → Calls Try.prog 26 #[.agg #[.int .i64 f0, .slice (some ⟨b, 0, none⟩) len0 c], .int .i64 a1, .int .i64 a2, .int .i64 a3, .int .i64 a4, .int .i64 a5] W fun e w' => e = .returned (.tuple #[.int .i64 A, .int .i64 E]) ∧ Below W.heap.size W w') :=
      Lib.hid (fun W b c hk hc => by have := isumfor_any a1 f0 xs (some ⟨b, 0, none⟩) len0 c a2 a3 a4 a5 W (hk.out.ints HL.out (by omega)) (by omega); unfold IIPost at this; rw [hA, hE] at this; exact this)
    clear hA hE
    go_enter Try.func6, Try.ntmps6
    go_wp2_with fail
    refine (szT_fit _ _ _ _ _ hfit).mono ?_
    rintro e w1 ⟨rfl, hb⟩
    obtain ⟨hB, hc0, hc1⟩ := box2 hb
    have HB := Lib.hid hB
    clear hb hB
    go_wp2_with fail
    refine (toT_any f0 xs _ _ _ _ (H.out.on HB.out) (by omega)).mono ?_
    rintro e w2 ⟨B1, rfl, hg1, hk1, hb⟩
    have hd0 := keep2 hb hc0
    have hd1 := keep2 hb hc1
    have HB2 := Lib.hid (HB.out.trans (hb.mono HB.out.size))
    have HK1 := Lib.hid hk1
    clear hb hk1 hc0 hc1 HB
    go_wp2_with fail
    refine (CS.out _ _ _ HK1 rfl).mono ?_
    rintro e w3 ⟨rfl, hb⟩
    have hc0 := keep2 hb hd0
    have hc1 := keep2 hb hd1
    have HB3 := Lib.hid (HB2.out.trans (hb.mono HB2.out.size))
    clear hb hd0 hd1 HB2 CS
    go_wp2_with fail
    refine (toT_any f0 xs _ _ _ _ (H.out.on HB3.out) (by omega)).mono ?_
    rintro e w4 ⟨B2, rfl, hg2, hk2, hb⟩
    have hd0 := keep2 hb hc0
    have hd1 := keep2 hb hc1
    have HB4 := Lib.hid (HB3.out.trans (hb.mono HB3.out.size))
    have HK2 := Lib.hid hk2
    clear hb hk2 hc0 hc1 HB3
    go_wp2_with fail
    refine (CI.out _ _ _ (Lib.hid (HK2.out.alloc _)) rfl).mono ?_
    rintro e w5 ⟨rfl, hb⟩
    obtain ⟨hB, hx0, hx1⟩ := box2 hb
    have hc0 := keep2 hB hd0
    have hc1 := keep2 hB hd1
    have HB5 := Lib.hid (HB4.out.trans (hB.mono HB4.out.size))
    have HK5 := Lib.hid (HK2.out.step hB)
    have HXS : Hid (∀ W, Hid (Below w.heap.size w W) → Calls Try.prog 21 #[.agg #[.int .i64 f0, .slice a0 len0 cap0]] W (ToPost W f0 xs len0)) := Lib.hid (fun W hW => toT_any f0 xs _ _ _ W (H.out.on hW.out) (by omega))
    have HEQ : Hid (∀ W B3, Hid (Blk W B2 xs) → Hid (Blk W B3 xs) → Calls Try.prog 22 #[.agg #[.int .i64 f0, .slice (some ⟨B2, 0, none⟩) len0 len0], .agg #[.int .i64 f0, .slice (some ⟨B3, 0, none⟩) len0 len0]] W fun e w' => e = .returned (.bool true) ∧ Below W.heap.size W w') := Lib.hid (fun W B3 hW hV => eqT_same f0 xs _ _ _ _ _ _ W (hW.out.ints HL.out (by omega)) (hV.out.ints HL.out (by omega)))
    obtain ⟨X, hX⟩ : ∃ X, w4.heap.size = X := ⟨_, rfl⟩
    rw [hX] at hx0 hx1
    clear hb hB hd0 hd1 HK1 HK2 HB4
    go_wp2_with fail
    (try rw [hX])
    clear hX
    go_region_held3 (fun w' => w'.cell? ⟨X, 0, none⟩ = some (.int .i64 f0) ∧ w'.cell? ⟨X, 1, none⟩ = some (.slice (some ⟨B2, 0, none⟩) len0 len0) ∧ w'.cell? ⟨w.heap.size, 0, none⟩ = some (.int .i64 f0) ∧ w'.cell? ⟨w.heap.size, 1, none⟩ = some (.slice a0 len0 cap0) ∧ Hid (Below w.heap.size w w') ∧ Hid (Blk w' B2 xs))
      (first
        | (go_split_ands; exact ⟨by with_reducible assumption, by with_reducible assumption, by with_reducible assumption, by with_reducible assumption, by with_reducible assumption, by with_reducible assumption⟩)
        | (go_split_ands; exact ⟨cell_drew (by with_reducible assumption), cell_drew (by with_reducible assumption), cell_drew (by with_reducible assumption), cell_drew (by with_reducible assumption), Lib.hid (Below.drew (Hid.out (by with_reducible assumption))), Lib.hid (Blk.drewN (Hid.out (by with_reducible assumption)) 1)⟩)
        | (go_split_ands; exact ⟨keep2 hb (by with_reducible assumption), keep2 hb (by with_reducible assumption), keep2 hb (by with_reducible assumption), keep2 hb (by with_reducible assumption), Lib.hid (Below.trans (Hid.out (by with_reducible assumption)) (Below.mono hb (Below.size (Hid.out (by with_reducible assumption))))), Lib.hid (Blk.step (Hid.out (by with_reducible assumption)) hb)⟩))
      (first
        | (go_split_ands; go_at_call 21; ((with_reducible refine (HXS.out _ (by with_reducible assumption)).mono ?_); rintro e w' ⟨B3, rfl, hg3, hk3, hb⟩; have HK3 := Lib.hid hk3; clear hk3))
        | (go_split_ands; go_at_call 22; ((with_reducible refine (HEQ.out _ _ (by with_reducible assumption) (by with_reducible assumption)).mono ?_); rintro e w' ⟨rfl, hb⟩)))
    all_goals
      go_split_ands
      go_wp2_with fail
      go_ret
      exact ⟨rfl, Hid.out (by with_reducible assumption)⟩

set_option maxHeartbeats 1000000 in
theorem fnExactAssuranceNumber_walk (f0 : Int) (a0 : Option Addr) (len0 cap0 : Nat) (z0 : List Int) (a1 : Int) (a2 : Int) (a3 : Int) (a4 : Int) (w : World) (w0 : IsRow .i64 w a0 len0 cap0 z0) (w1 : (Lit.int .i64 a1).wf = true) (w2 : (Lit.int .i64 a2).wf = true) (w3 : (Lit.int .i64 a3).wf = true) (w4 : (Lit.int .i64 a4).wf = true) :
    Calls Try.prog 8 #[.agg #[.int .i64 f0, .slice a0 len0 cap0], .int .i64 a1, .int .i64 a2, .int .i64 a3, .int .i64 a4] w fun e w' => e = .returned (.bool true) ∧ Below w.heap.size w w' := by
  have hmx := w0.len_le
  unfold maxLen at hmx
  by_cases hbig : (1048576 : Int) < len0
  · go_enter Try.func8, Try.ntmps8
    go_wp2_with fail
    refine (szT_big _ _ _ _ _ (by omega) hbig).mono ?_
    rintro e w1 ⟨rfl, hb⟩
    obtain ⟨hB, hc0, hc1⟩ := box2 hb
    have HB := Lib.hid hB
    clear hb hB
    go_wp2_with fail
    go_ret
    exact ⟨rfl, HB.out⟩
  · have h0 := w0.ints (by omega)
    obtain ⟨xs, hxs⟩ : ∃ xs, z0.take len0 = xs := ⟨_, rfl⟩
    rw [hxs] at h0
    have H := Lib.hid h0
    have HL := Lib.hid h0.len
    have hfit : (len0 : Int) ≤ 1048576 := by omega
    clear h0 w0 w1 w2 w3 w4 hxs hbig hmx
    obtain ⟨A, hA⟩ : ∃ y_, numT a1 f0 xs a2 a3 a4 = y_ := ⟨_, rfl⟩
    obtain ⟨A2, hA2⟩ : ∃ y_, numD a1 f0 xs a2 a3 a4 = y_ := ⟨_, rfl⟩
    obtain ⟨E, hE⟩ : ∃ y_, numE a1 f0 xs a2 a3 a4 = y_ := ⟨_, rfl⟩
    have CS : Hid (∀ W b c, Hid (Blk W b xs) → c = len0 → Calls Try.prog 31 #[.agg #[.int .i64 f0, .slice (some ⟨b, 0, none⟩) len0 c], .int .i64 a1, .int .i64 a2, .int .i64 a3, .int .i64 a4] W fun e w' => e = .returned (.tuple #[.int .i64 A, .int .i64 A2, .int .i64 E]) ∧ Below W.heap.size W w') :=
      Lib.hid (fun W b c hk hc => by have := snum_any a1 f0 xs (some ⟨b, 0, none⟩) len0 c a2 a3 a4 W (hk.out.ints HL.out (by omega)); unfold IIIPost at this; rw [hA, hA2, hE] at this; exact this)
    have CI : Hid (∀ W b c, Hid (Blk W b xs) → c = len0 → Calls Try.prog 32 #[.agg #[.int .i64 f0, .slice (some ⟨b, 0, none⟩) len0 c], .int .i64 a1, .int .i64 a2, .int .i64 a3, .int .i64 a4] W fun e w' => e = .returned (.tuple #[.int .i64 A, .int .i64 A2, .int .i64 E]) ∧ Below W.heap.size W w') :=
      Lib.hid (fun W b c hk hc => by have := inumb_any a1 f0 xs (some ⟨b, 0, none⟩) len0 c a2 a3 a4 W (hk.out.ints HL.out (by omega)) (by omega); unfold IIIPost at this; rw [hA, hA2, hE] at this; exact this)
    clear hA hA2 hE
    go_enter Try.func8, Try.ntmps8
    go_wp2_with fail
    refine (szT_fit _ _ _ _ _ hfit).mono ?_
    rintro e w1 ⟨rfl, hb⟩
    obtain ⟨hB, hc0, hc1⟩ := box2 hb
    have HB := Lib.hid hB
    clear hb hB
    go_wp2_with fail
    refine (toT_any f0 xs _ _ _ _ (H.out.on HB.out) (by omega)).mono ?_
    rintro e w2 ⟨B1, rfl, hg1, hk1, hb⟩
    have hd0 := keep2 hb hc0
    have hd1 := keep2 hb hc1
    have HB2 := Lib.hid (HB.out.trans (hb.mono HB.out.size))
    have HK1 := Lib.hid hk1
    clear hb hk1 hc0 hc1 HB
    go_wp2_with fail
    refine (CS.out _ _ _ HK1 rfl).mono ?_
    rintro e w3 ⟨rfl, hb⟩
    have hc0 := keep2 hb hd0
    have hc1 := keep2 hb hd1
    have HB3 := Lib.hid (HB2.out.trans (hb.mono HB2.out.size))
    clear hb hd0 hd1 HB2 CS
    go_wp2_with fail
    refine (toT_any f0 xs _ _ _ _ (H.out.on HB3.out) (by omega)).mono ?_
    rintro e w4 ⟨B2, rfl, hg2, hk2, hb⟩
    have hd0 := keep2 hb hc0
    have hd1 := keep2 hb hc1
    have HB4 := Lib.hid (HB3.out.trans (hb.mono HB3.out.size))
    have HK2 := Lib.hid hk2
    clear hb hk2 hc0 hc1 HB3
    go_wp2_with fail
    refine (CI.out _ _ _ (Lib.hid (HK2.out.alloc _)) rfl).mono ?_
    rintro e w5 ⟨rfl, hb⟩
    obtain ⟨hB, hx0, hx1⟩ := box2 hb
    have hc0 := keep2 hB hd0
    have hc1 := keep2 hB hd1
    have HB5 := Lib.hid (HB4.out.trans (hB.mono HB4.out.size))
    have HK5 := Lib.hid (HK2.out.step hB)
    have HXS : Hid (∀ W, Hid (Below w.heap.size w W) → Calls Try.prog 21 #[.agg #[.int .i64 f0, .slice a0 len0 cap0]] W (ToPost W f0 xs len0)) := Lib.hid (fun W hW => toT_any f0 xs _ _ _ W (H.out.on hW.out) (by omega))
    have HEQ : Hid (∀ W B3, Hid (Blk W B2 xs) → Hid (Blk W B3 xs) → Calls Try.prog 22 #[.agg #[.int .i64 f0, .slice (some ⟨B2, 0, none⟩) len0 len0], .agg #[.int .i64 f0, .slice (some ⟨B3, 0, none⟩) len0 len0]] W fun e w' => e = .returned (.bool true) ∧ Below W.heap.size W w') := Lib.hid (fun W B3 hW hV => eqT_same f0 xs _ _ _ _ _ _ W (hW.out.ints HL.out (by omega)) (hV.out.ints HL.out (by omega)))
    obtain ⟨X, hX⟩ : ∃ X, w4.heap.size = X := ⟨_, rfl⟩
    rw [hX] at hx0 hx1
    clear hb hB hd0 hd1 HK1 HK2 HB4
    go_wp2_with fail
    (try rw [hX])
    clear hX
    go_region_held3 (fun w' => w'.cell? ⟨X, 0, none⟩ = some (.int .i64 f0) ∧ w'.cell? ⟨X, 1, none⟩ = some (.slice (some ⟨B2, 0, none⟩) len0 len0) ∧ w'.cell? ⟨w.heap.size, 0, none⟩ = some (.int .i64 f0) ∧ w'.cell? ⟨w.heap.size, 1, none⟩ = some (.slice a0 len0 cap0) ∧ Hid (Below w.heap.size w w') ∧ Hid (Blk w' B2 xs))
      (first
        | (go_split_ands; exact ⟨by with_reducible assumption, by with_reducible assumption, by with_reducible assumption, by with_reducible assumption, by with_reducible assumption, by with_reducible assumption⟩)
        | (go_split_ands; exact ⟨cell_drew (by with_reducible assumption), cell_drew (by with_reducible assumption), cell_drew (by with_reducible assumption), cell_drew (by with_reducible assumption), Lib.hid (Below.drew (Hid.out (by with_reducible assumption))), Lib.hid (Blk.drewN (Hid.out (by with_reducible assumption)) 1)⟩)
        | (go_split_ands; exact ⟨keep2 hb (by with_reducible assumption), keep2 hb (by with_reducible assumption), keep2 hb (by with_reducible assumption), keep2 hb (by with_reducible assumption), Lib.hid (Below.trans (Hid.out (by with_reducible assumption)) (Below.mono hb (Below.size (Hid.out (by with_reducible assumption))))), Lib.hid (Blk.step (Hid.out (by with_reducible assumption)) hb)⟩))
      (first
        | (go_split_ands; go_at_call 21; ((with_reducible refine (HXS.out _ (by with_reducible assumption)).mono ?_); rintro e w' ⟨B3, rfl, hg3, hk3, hb⟩; have HK3 := Lib.hid hk3; clear hk3))
        | (go_split_ands; go_at_call 22; ((with_reducible refine (HEQ.out _ _ (by with_reducible assumption) (by with_reducible assumption)).mono ?_); rintro e w' ⟨rfl, hb⟩)))
    all_goals
      go_split_ands
      go_wp2_with fail
      go_ret
      exact ⟨rfl, Hid.out (by with_reducible assumption)⟩

set_option maxHeartbeats 1000000 in
theorem fnExactTermPart_walk (f0 : Int) (a0 : Option Addr) (len0 cap0 : Nat) (z0 : List Int) (a1 : Int) (a2 : Int) (a3 : Int) (a4 : Int) (w : World) (w0 : IsRow .i64 w a0 len0 cap0 z0) (w1 : (Lit.int .i64 a1).wf = true) (w2 : (Lit.int .i64 a2).wf = true) (w3 : (Lit.int .i64 a3).wf = true) (w4 : (Lit.int .i64 a4).wf = true) :
    Calls Try.prog 9 #[.agg #[.int .i64 f0, .slice a0 len0 cap0], .int .i64 a1, .int .i64 a2, .int .i64 a3, .int .i64 a4] w fun e w' => e = .returned (.bool true) ∧ Below w.heap.size w w' := by
  have hmx := w0.len_le
  unfold maxLen at hmx
  by_cases hbig : (1048576 : Int) < len0
  · go_enter Try.func9, Try.ntmps9
    go_wp2_with fail
    refine (szT_big _ _ _ _ _ (by omega) hbig).mono ?_
    rintro e w1 ⟨rfl, hb⟩
    obtain ⟨hB, hc0, hc1⟩ := box2 hb
    have HB := Lib.hid hB
    clear hb hB
    go_wp2_with fail
    go_ret
    exact ⟨rfl, HB.out⟩
  · have h0 := w0.ints (by omega)
    obtain ⟨xs, hxs⟩ : ∃ xs, z0.take len0 = xs := ⟨_, rfl⟩
    rw [hxs] at h0
    have H := Lib.hid h0
    have HL := Lib.hid h0.len
    have hfit : (len0 : Int) ≤ 1048576 := by omega
    clear h0 w0 w1 w2 w3 w4 hxs hbig hmx
    obtain ⟨A, hA⟩ : ∃ y_, priV a1 f0 xs 1 a2 a3 a4 = y_ := ⟨_, rfl⟩
    obtain ⟨A2, hA2⟩ : ∃ y_, priV a1 f0 xs 3 a2 a3 a4 = y_ := ⟨_, rfl⟩
    obtain ⟨E, hE⟩ : ∃ y_, asE a1 f0 xs 1 a2 a3 a4 = y_ := ⟨_, rfl⟩
    have CS : Hid (∀ W b c, Hid (Blk W b xs) → c = len0 → Calls Try.prog 13 #[.agg #[.int .i64 f0, .slice (some ⟨b, 0, none⟩) len0 c], .int .i64 a1, .int .i64 a2, .int .i64 a3, .int .i64 a4] W fun e w' => e = .returned (.tuple #[.int .i64 A, .int .i64 A2, .int .i64 E]) ∧ Below W.heap.size W w') :=
      Lib.hid (fun W b c hk hc => by have := spart_any a1 f0 xs (some ⟨b, 0, none⟩) len0 c a2 a3 a4 W (hk.out.ints HL.out (by omega)); unfold IIIPost at this; rw [hA, hA2, hE] at this; exact this)
    have CI : Hid (∀ W b c, Hid (Blk W b xs) → c = len0 → Calls Try.prog 12 #[.agg #[.int .i64 f0, .slice (some ⟨b, 0, none⟩) len0 c], .int .i64 a1, .int .i64 a2, .int .i64 a3, .int .i64 a4] W fun e w' => e = .returned (.tuple #[.int .i64 A, .int .i64 A2, .int .i64 E]) ∧ Below W.heap.size W w') :=
      Lib.hid (fun W b c hk hc => by have := ipart_any a1 f0 xs (some ⟨b, 0, none⟩) len0 c a2 a3 a4 W (hk.out.ints HL.out (by omega)) (by omega); unfold IIIPost at this; rw [hA, hA2, hE] at this; exact this)
    clear hA hA2 hE
    go_enter Try.func9, Try.ntmps9
    go_wp2_with fail
    refine (szT_fit _ _ _ _ _ hfit).mono ?_
    rintro e w1 ⟨rfl, hb⟩
    obtain ⟨hB, hc0, hc1⟩ := box2 hb
    have HB := Lib.hid hB
    clear hb hB
    go_wp2_with fail
    refine (toT_any f0 xs _ _ _ _ (H.out.on HB.out) (by omega)).mono ?_
    rintro e w2 ⟨B1, rfl, hg1, hk1, hb⟩
    have hd0 := keep2 hb hc0
    have hd1 := keep2 hb hc1
    have HB2 := Lib.hid (HB.out.trans (hb.mono HB.out.size))
    have HK1 := Lib.hid hk1
    clear hb hk1 hc0 hc1 HB
    go_wp2_with fail
    refine (CS.out _ _ _ HK1 rfl).mono ?_
    rintro e w3 ⟨rfl, hb⟩
    have hc0 := keep2 hb hd0
    have hc1 := keep2 hb hd1
    have HB3 := Lib.hid (HB2.out.trans (hb.mono HB2.out.size))
    clear hb hd0 hd1 HB2 CS
    go_wp2_with fail
    refine (toT_any f0 xs _ _ _ _ (H.out.on HB3.out) (by omega)).mono ?_
    rintro e w4 ⟨B2, rfl, hg2, hk2, hb⟩
    have hd0 := keep2 hb hc0
    have hd1 := keep2 hb hc1
    have HB4 := Lib.hid (HB3.out.trans (hb.mono HB3.out.size))
    have HK2 := Lib.hid hk2
    clear hb hk2 hc0 hc1 HB3
    go_wp2_with fail
    refine (CI.out _ _ _ (Lib.hid (HK2.out.alloc _)) rfl).mono ?_
    rintro e w5 ⟨rfl, hb⟩
    obtain ⟨hB, hx0, hx1⟩ := box2 hb
    have hc0 := keep2 hB hd0
    have hc1 := keep2 hB hd1
    have HB5 := Lib.hid (HB4.out.trans (hB.mono HB4.out.size))
    have HK5 := Lib.hid (HK2.out.step hB)
    have HXS : Hid (∀ W, Hid (Below w.heap.size w W) → Calls Try.prog 21 #[.agg #[.int .i64 f0, .slice a0 len0 cap0]] W (ToPost W f0 xs len0)) := Lib.hid (fun W hW => toT_any f0 xs _ _ _ W (H.out.on hW.out) (by omega))
    have HEQ : Hid (∀ W B3, Hid (Blk W B2 xs) → Hid (Blk W B3 xs) → Calls Try.prog 22 #[.agg #[.int .i64 f0, .slice (some ⟨B2, 0, none⟩) len0 len0], .agg #[.int .i64 f0, .slice (some ⟨B3, 0, none⟩) len0 len0]] W fun e w' => e = .returned (.bool true) ∧ Below W.heap.size W w') := Lib.hid (fun W B3 hW hV => eqT_same f0 xs _ _ _ _ _ _ W (hW.out.ints HL.out (by omega)) (hV.out.ints HL.out (by omega)))
    obtain ⟨X, hX⟩ : ∃ X, w4.heap.size = X := ⟨_, rfl⟩
    rw [hX] at hx0 hx1
    clear hb hB hd0 hd1 HK1 HK2 HB4
    go_wp2_with fail
    (try rw [hX])
    clear hX
    go_region_held3 (fun w' => w'.cell? ⟨X, 0, none⟩ = some (.int .i64 f0) ∧ w'.cell? ⟨X, 1, none⟩ = some (.slice (some ⟨B2, 0, none⟩) len0 len0) ∧ w'.cell? ⟨w.heap.size, 0, none⟩ = some (.int .i64 f0) ∧ w'.cell? ⟨w.heap.size, 1, none⟩ = some (.slice a0 len0 cap0) ∧ Hid (Below w.heap.size w w') ∧ Hid (Blk w' B2 xs))
      (first
        | (go_split_ands; exact ⟨by with_reducible assumption, by with_reducible assumption, by with_reducible assumption, by with_reducible assumption, by with_reducible assumption, by with_reducible assumption⟩)
        | (go_split_ands; exact ⟨cell_drew (by with_reducible assumption), cell_drew (by with_reducible assumption), cell_drew (by with_reducible assumption), cell_drew (by with_reducible assumption), Lib.hid (Below.drew (Hid.out (by with_reducible assumption))), Lib.hid (Blk.drewN (Hid.out (by with_reducible assumption)) 1)⟩)
        | (go_split_ands; exact ⟨keep2 hb (by with_reducible assumption), keep2 hb (by with_reducible assumption), keep2 hb (by with_reducible assumption), keep2 hb (by with_reducible assumption), Lib.hid (Below.trans (Hid.out (by with_reducible assumption)) (Below.mono hb (Below.size (Hid.out (by with_reducible assumption))))), Lib.hid (Blk.step (Hid.out (by with_reducible assumption)) hb)⟩))
      (first
        | (go_split_ands; go_at_call 21; ((with_reducible refine (HXS.out _ (by with_reducible assumption)).mono ?_); rintro e w' ⟨B3, rfl, hg3, hk3, hb⟩; have HK3 := Lib.hid hk3; clear hk3))
        | (go_split_ands; go_at_call 22; ((with_reducible refine (HEQ.out _ _ (by with_reducible assumption) (by with_reducible assumption)).mono ?_); rintro e w' ⟨rfl, hb⟩)))
    all_goals
      go_split_ands
      go_wp2_with fail
      go_ret
      exact ⟨rfl, Hid.out (by with_reducible assumption)⟩

end Go.Proofs.Ytnimmkbpcmgeaaa

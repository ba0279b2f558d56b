/- The exact laws on WidowYears and the annuities of two lives. (Written by wip/gen/jtx.py.) -/
import Derived.Test.YtlcmgihaelgclaaJtx
import Derived.Test.YtlcmgihaelgclaaJpe
import Derived.Test.YtlcmgihaelgclaaJpf
namespace Go.Proofs.Ytlcmgihaelgclaa
open Go.ChangeShapes Go.WideShapes Go.ChangeAt Go.RowKit
set_option linter.unusedVariables false
set_option maxRecDepth 100000

set_option maxHeartbeats 4000000 in
theorem fnExactWidowYears_walk (f0 : Int) (a0 : Option Addr) (len0 cap0 : Nat) (z0 : List Int) (a1 : Int) (f2 : Int) (a2 : Option Addr) (len2 cap2 : Nat) (z2 : List Int) (a3 : Int) (w : World) (w0 : IsRow .i64 w a0 len0 cap0 z0) (w1 : (Lit.int .i64 a1).wf = true) (w2 : IsRow .i64 w a2 len2 cap2 z2) (w3 : (Lit.int .i64 a3).wf = true) :
    Calls Try.prog 10 #[.agg #[.int .i64 f0, .slice a0 len0 cap0], .int .i64 a1, .agg #[.int .i64 f2, .slice a2 len2 cap2], .int .i64 a3] w fun e w' => e = .returned (.bool true) ∧ Below w.heap.size w w' := by
  have hmx := w0.len_le
  have hmx2 := w2.len_le
  unfold maxLen at hmx hmx2
  have HK : Hid (K2 w f0 (.slice a0 len0 cap0) f2 (.slice a2 len2 cap2) ((w.alloc (.cells #[.int .i64 f0, .slice a0 len0 cap0] 39)).alloc (.cells #[.int .i64 f2, .slice a2 len2 cap2] 39))) := Lib.hid (K2.new _ _ _ _ _ _ _)
  by_cases hbig : (1048576 : Int) < len0
  · go_enter Try.func10, Try.ntmps10
    go_wp2_with fail
    refine (szT_big2 _ _ _ _ _ _ (by omega) (by omega) (by omega) hbig).mono ?_
    rintro e w1 ⟨rfl, hb⟩
    have HK := Lib.hid (HK.out.on hb)
    clear hb
    go_wp2_with fail
    go_ret
    exact ⟨rfl, HK.out.low⟩
  by_cases hbig2 : (1048576 : Int) - len0 < len2
  · go_enter Try.func10, Try.ntmps10
    go_wp2_with fail
    refine (szT_fit2 _ _ _ _ _ _ (by omega) (by omega) (by omega)).mono ?_
    rintro e w1 ⟨rfl, hb⟩
    have HK := Lib.hid (HK.out.on hb)
    obtain ⟨k0, k1, k2, k3, _⟩ := HK.out
    clear hb
    go_wp2_with fail
    refine (szT_big2 _ _ _ _ _ _ (by omega) (by omega) (by omega) hbig2).mono ?_
    rintro e w2 ⟨rfl, hb⟩
    have HK := Lib.hid (HK.out.on hb)
    clear hb
    go_wp2_with fail
    go_ret
    exact ⟨rfl, HK.out.low⟩
  have h0 := w0.ints (by omega)
  have h2 := w2.ints (by omega)
  obtain ⟨xs, hxs⟩ : ∃ xs, z0.take len0 = xs := ⟨_, rfl⟩
  obtain ⟨ys, hys⟩ : ∃ ys, z2.take len2 = ys := ⟨_, rfl⟩
  rw [hxs] at h0
  rw [hys] at h2
  have HL := Lib.hid h0.len
  have HL2 := Lib.hid h2.len
  have HD : Hid (D2 w f0 a0 len0 cap0 f2 a2 len2 cap2 xs ys ((w.alloc (.cells #[.int .i64 f0, .slice a0 len0 cap0] 39)).alloc (.cells #[.int .i64 f2, .slice a2 len2 cap2] 39))) := Lib.hid ⟨HK.out, h0.on ((box_b _ _).trans ((box_b _ _).mono (by simp))), h2.on ((box_b _ _).trans ((box_b _ _).mono (by simp)))⟩
  have hfit : (len0 : Int) ≤ 1048576 := by omega
  have hfit2 : (len2 : Int) ≤ 1048576 - len0 := by omega
  clear h0 h2 w0 w1 w2 w3 hxs hys hbig hbig2 hmx hmx2 HK
  obtain ⟨A, hA⟩ : ∃ y_, wyN f0 xs a1 f2 ys a3 = y_ := ⟨_, rfl⟩
  obtain ⟨B, hB⟩ : ∃ y_, wyD f0 xs a1 f2 ys a3 = y_ := ⟨_, rfl⟩
  obtain ⟨C, hC⟩ : ∃ y_, twE f0 xs a1 f2 ys a3 true = y_ := ⟨_, rfl⟩
  have CS : Hid (∀ W b1 b2 c1 c2, Hid (Blk W b1 xs) → Hid (Blk W b2 ys) → Calls Try.prog 34 #[.agg #[.int .i64 f0, .slice (some ⟨b1, 0, none⟩) len0 c1], .int .i64 a1, .agg #[.int .i64 f2, .slice (some ⟨b2, 0, none⟩) len2 c2], .int .i64 a3] W fun e w' => e = .returned (.tuple #[.int .i64 A, .int .i64 B, .int .i64 C]) ∧ Below W.heap.size W w') :=
    Lib.hid (fun W b1 b2 c1 c2 hk hj => by have := swid_any f0 xs (some ⟨b1, 0, none⟩) len0 c1 a1 f2 ys (some ⟨b2, 0, none⟩) len2 c2 a3  W (hk.out.ints HL.out (by omega)) (hj.out.ints HL2.out (by omega)); unfold IIIPost8 at this; rw [hA, hB, hC] at this; exact this)
  have CI : Hid (∀ W b1 b2, Hid (Blk W b1 xs) → Hid (Blk W b2 ys) → Calls Try.prog 35 #[.agg #[.int .i64 f0, .slice (some ⟨b1, 0, none⟩) len0 len0], .int .i64 a1, .agg #[.int .i64 f2, .slice (some ⟨b2, 0, none⟩) len2 len2], .int .i64 a3] W fun e w' => e = .returned (.tuple #[.int .i64 A, .int .i64 B, .int .i64 C]) ∧ Below W.heap.size W w') :=
    Lib.hid (fun W b1 b2 hk hj => by have := iwid_any f0 xs (some ⟨b1, 0, none⟩) len0 len0 a1 f2 ys (some ⟨b2, 0, none⟩) len2 len2 a3  W (hk.out.ints HL.out (by omega)) (hj.out.ints HL2.out (by omega)) (Nat.le_refl _) (Nat.le_refl _); unfold IIIPost8 at this; rw [hA, hB, hC] at this; exact this)
  clear hA hB hC
  have TX : Hid (∀ W, Hid (D2 w f0 a0 len0 cap0 f2 a2 len2 cap2 xs ys W) → Calls Try.prog 24 #[.agg #[.int .i64 f0, .slice a0 len0 cap0]] W (ToPost W f0 xs len0)) := Lib.hid (fun W hW => toT_any f0 xs _ _ _ W hW.out.xx (by omega))
  have TY : Hid (∀ W, Hid (D2 w f0 a0 len0 cap0 f2 a2 len2 cap2 xs ys W) → Calls Try.prog 24 #[.agg #[.int .i64 f2, .slice a2 len2 cap2]] W (ToPost W f2 ys len2)) := Lib.hid (fun W hW => toT_any f2 ys _ _ _ W hW.out.yy (by omega))
  have EX : Hid (∀ W b1 b2, Hid (Blk W b1 xs) → Hid (Blk W b2 xs) → Calls Try.prog 25 #[.agg #[.int .i64 f0, .slice (some ⟨b1, 0, none⟩) len0 len0], .agg #[.int .i64 f0, .slice (some ⟨b2, 0, none⟩) len0 len0]] W fun e w' => e = .returned (.bool true) ∧ Below W.heap.size W w') := Lib.hid (fun W b1 b2 hW hV => eqT_same f0 xs _ _ _ _ _ _ W (hW.out.ints HL.out (by omega)) (hV.out.ints HL.out (by omega)))
  have EY : Hid (∀ W b1 b2, Hid (Blk W b1 ys) → Hid (Blk W b2 ys) → Calls Try.prog 25 #[.agg #[.int .i64 f2, .slice (some ⟨b1, 0, none⟩) len2 len2], .agg #[.int .i64 f2, .slice (some ⟨b2, 0, none⟩) len2 len2]] W fun e w' => e = .returned (.bool true) ∧ Below W.heap.size W w') := Lib.hid (fun W b1 b2 hW hV => eqT_same f2 ys _ _ _ _ _ _ W (hW.out.ints HL2.out (by omega)) (hV.out.ints HL2.out (by omega)))
  go_enter Try.func10, Try.ntmps10
  go_wp2_with fail
  refine (szT_fit2 _ _ _ _ _ _ (by omega) (by omega) hfit).mono ?_
  rintro e w1 ⟨rfl, hb⟩
  have HD := Lib.hid (HD.out.on hb)
  obtain ⟨k0, k1, k2, k3, _⟩ := HD.out.k2
  clear hb
  go_wp2_with fail
  refine (szT_fit2 _ _ _ _ _ _ (by omega) (by omega) hfit2).mono ?_
  rintro e w2 ⟨rfl, hb⟩
  have HD := Lib.hid (HD.out.on hb)
  clear hb k0 k1 k2 k3
  obtain ⟨k0, k1, k2, k3, _⟩ := HD.out.k2
  go_wp2_with fail
  clear k0 k1 k2 k3
  go_region_held3 (fun w' => w'.cell? ⟨w.heap.size, 0, none⟩ = some (.int .i64 f0) ∧ w'.cell? ⟨w.heap.size, 1, none⟩ = some (.slice a0 len0 cap0) ∧ w'.cell? ⟨w.heap.size + 1, 0, none⟩ = some (.int .i64 f2) ∧ w'.cell? ⟨w.heap.size + 1, 1, none⟩ = some (.slice a2 len2 cap2) ∧ Hid (D2 w f0 a0 len0 cap0 f2 a2 len2 cap2 xs ys w')) (first
        | (go_split_ands; exact d2S (Hid.out (by with_reducible assumption)))
        | (go_split_ands; exact d2S (D2.on (Hid.out (by with_reducible assumption)) hb))
        | (go_split_ands; exact d2S (D2.on (Hid.out (by with_reducible assumption)) (Below.drew (Below.refl _ _))))
        | fail)
    (first
      | (go_split_ands; go_at_call 24; ((with_reducible refine (TX.out _ (by with_reducible assumption)).mono ?_); rintro e w' ⟨B1, rfl, hg1, hk1, hb⟩; have HB1 := Lib.hid hk1; clear hk1 hg1))
      | (go_split_ands; go_at_call 24; ((with_reducible refine (TY.out _ (by with_reducible assumption)).mono ?_); rintro e w' ⟨B2, rfl, hg2, hk2, hb⟩; replace HB1 := Lib.hid (HB1.out.step hb); have HB2 := Lib.hid hk2; clear hk2 hg2))
      | (go_split_ands; go_at_call 34; ((with_reducible refine (CS.out _ _ _ _ _ HB1 HB2).mono ?_); rintro e w' ⟨rfl, hb⟩))
      | fail)
  all_goals
    go_split_ands
    have HD : Hid (D2 w f0 a0 len0 cap0 f2 a2 len2 cap2 xs ys _) := (by with_reducible assumption)
    obtain ⟨k0, k1, k2, k3, _⟩ := HD.out.k2
    go_wp2_with fail
    with_reducible refine (TX.out _ HD).mono ?_
    rintro e w4 ⟨B1, rfl, hg1, hk1, hb⟩
    have hbx := box_b w4 (.cells #[.int .i64 f0, .slice (some ⟨B1, 0, none⟩) len0 len0] 26)
    have hp1 : Bx (w4.alloc (.cells #[.int .i64 f0, .slice (some ⟨B1, 0, none⟩) len0 len0] 26)) w4.heap.size [.int .i64 f0, .slice (some ⟨B1, 0, none⟩) len0 len0] := Bx.new w4 _ _
    have HD := Lib.hid ((HD.out.on hb).on hbx)
    have HB1 := Lib.hid (hk1.step hbx)
    obtain ⟨P1, hP1⟩ : ∃ y_, w4.heap.size = y_ := ⟨_, rfl⟩
    rw [hP1] at hp1
    clear hb hbx hk1 hg1 k0 k1 k2 k3
    obtain ⟨k0, k1, k2, k3, _⟩ := HD.out.k2
    go_wp2_with fail
    (try rw [hP1])
    generalize (w4.alloc (.cells #[.int .i64 f0, .slice (some ⟨B1, 0, none⟩) len0 len0] 26)) = v4 at HD HB1 hp1 k0 k1 k2 k3 ⊢
    clear hP1
    with_reducible refine (TY.out _ HD).mono ?_
    rintro e w5 ⟨B2, rfl, hg2, hk2, hb⟩
    have hbx := box_b w5 (.cells #[.int .i64 f2, .slice (some ⟨B2, 0, none⟩) len2 len2] 26)
    have hp2 : Bx (w5.alloc (.cells #[.int .i64 f2, .slice (some ⟨B2, 0, none⟩) len2 len2] 26)) w5.heap.size [.int .i64 f2, .slice (some ⟨B2, 0, none⟩) len2 len2] := Bx.new w5 _ _
    have HE : Hid (E2 w f0 a0 len0 cap0 f2 a2 len2 cap2 xs ys P1 w5.heap.size B1 B2 (w5.alloc (.cells #[.int .i64 f2, .slice (some ⟨B2, 0, none⟩) len2 len2] 26))) := Lib.hid ⟨(HD.out.on hb).on hbx, (hp1.on hb).on hbx, hp2, (HB1.out.step hb).step hbx, hk2.step hbx⟩
    obtain ⟨P2, hP2⟩ : ∃ y_, w5.heap.size = y_ := ⟨_, rfl⟩
    rw [hP2] at HE
    clear hb hbx hk2 hg2 hp1 hp2 HD HB1 k0 k1 k2 k3
    obtain ⟨k0, k1, k2, k3, k4, k5, k6, k7, _⟩ := e2S HE.out
    go_wp2_with fail
    (try rw [hP2])
    generalize (w5.alloc (.cells #[.int .i64 f2, .slice (some ⟨B2, 0, none⟩) len2 len2] 26)) = v5 at HE k0 k1 k2 k3 k4 k5 k6 k7 ⊢
    clear hP2
    with_reducible refine (CI.out _ _ _ (Lib.hid HE.out.b1) (Lib.hid HE.out.b2)).mono ?_
    rintro e w6 ⟨rfl, hb⟩
    have HE := Lib.hid (HE.out.on hb)
    clear hb k0 k1 k2 k3 k4 k5 k6 k7
    have TX2 : Hid (∀ W, Hid (E2 w f0 a0 len0 cap0 f2 a2 len2 cap2 xs ys P1 P2 B1 B2 W) → Calls Try.prog 24 #[.agg #[.int .i64 f0, .slice a0 len0 cap0]] W (ToPost W f0 xs len0)) := Lib.hid (fun W hW => TX.out W (Lib.hid hW.out.d2))
    have TY2 : Hid (∀ W, Hid (E2 w f0 a0 len0 cap0 f2 a2 len2 cap2 xs ys P1 P2 B1 B2 W) → Calls Try.prog 24 #[.agg #[.int .i64 f2, .slice a2 len2 cap2]] W (ToPost W f2 ys len2)) := Lib.hid (fun W hW => TY.out W (Lib.hid hW.out.d2))
    have EX2 : Hid (∀ W b2, Hid (E2 w f0 a0 len0 cap0 f2 a2 len2 cap2 xs ys P1 P2 B1 B2 W) → Hid (Blk W b2 xs) → Calls Try.prog 25 #[.agg #[.int .i64 f0, .slice (some ⟨B1, 0, none⟩) len0 len0], .agg #[.int .i64 f0, .slice (some ⟨b2, 0, none⟩) len0 len0]] W fun e w' => e = .returned (.bool true) ∧ Below W.heap.size W w') := Lib.hid (fun W b2 hW hb => EX.out W B1 b2 (Lib.hid hW.out.b1) hb)
    have EY2 : Hid (∀ W b2, Hid (E2 w f0 a0 len0 cap0 f2 a2 len2 cap2 xs ys P1 P2 B1 B2 W) → Hid (Blk W b2 ys) → Calls Try.prog 25 #[.agg #[.int .i64 f2, .slice (some ⟨B2, 0, none⟩) len2 len2], .agg #[.int .i64 f2, .slice (some ⟨b2, 0, none⟩) len2 len2]] W fun e w' => e = .returned (.bool true) ∧ Below W.heap.size W w') := Lib.hid (fun W b2 hW hb => EY.out W B2 b2 (Lib.hid hW.out.b2) hb)
    go_wp2_with fail
    go_region_held3 (fun w' => w'.cell? ⟨w.heap.size, 0, none⟩ = some (.int .i64 f0) ∧ w'.cell? ⟨w.heap.size, 1, none⟩ = some (.slice a0 len0 cap0) ∧ w'.cell? ⟨w.heap.size + 1, 0, none⟩ = some (.int .i64 f2) ∧ w'.cell? ⟨w.heap.size + 1, 1, none⟩ = some (.slice a2 len2 cap2) ∧ w'.cell? ⟨P1, 0, none⟩ = some (.int .i64 f0) ∧ w'.cell? ⟨P1, 1, none⟩ = some (.slice (some ⟨B1, 0, none⟩) len0 len0) ∧ w'.cell? ⟨P2, 0, none⟩ = some (.int .i64 f2) ∧ w'.cell? ⟨P2, 1, none⟩ = some (.slice (some ⟨B2, 0, none⟩) len2 len2) ∧ Hid (E2 w f0 a0 len0 cap0 f2 a2 len2 cap2 xs ys P1 P2 B1 B2 w')) (first
        | (go_split_ands; exact e2S (Hid.out (by with_reducible assumption)))
        | (go_split_ands; exact e2S (E2.on (Hid.out (by with_reducible assumption)) hb))
        | (go_split_ands; exact e2S (E2.on (Hid.out (by with_reducible assumption)) (Below.drew (Below.refl _ _))))
        | fail)
      (first
        | (go_split_ands; go_at_call 24; ((with_reducible refine (TX2.out _ (by with_reducible assumption)).mono ?_); rintro e w' ⟨B3, rfl, hg3, hk3, hb⟩; have HK3 := Lib.hid hk3; clear hk3 hg3))
        | (go_split_ands; go_at_call 25; ((with_reducible refine (EX2.out _ _ (by with_reducible assumption) HK3).mono ?_); rintro e w' ⟨rfl, hb⟩))
        | fail)
    all_goals
      go_split_ands
      have HE : Hid (E2 w f0 a0 len0 cap0 f2 a2 len2 cap2 xs ys P1 P2 B1 B2 _) := (by with_reducible assumption)
      go_wp2_with fail
      go_region_held3 (fun w' => w'.cell? ⟨w.heap.size, 0, none⟩ = some (.int .i64 f0) ∧ w'.cell? ⟨w.heap.size, 1, none⟩ = some (.slice a0 len0 cap0) ∧ w'.cell? ⟨w.heap.size + 1, 0, none⟩ = some (.int .i64 f2) ∧ w'.cell? ⟨w.heap.size + 1, 1, none⟩ = some (.slice a2 len2 cap2) ∧ w'.cell? ⟨P1, 0, none⟩ = some (.int .i64 f0) ∧ w'.cell? ⟨P1, 1, none⟩ = some (.slice (some ⟨B1, 0, none⟩) len0 len0) ∧ w'.cell? ⟨P2, 0, none⟩ = some (.int .i64 f2) ∧ w'.cell? ⟨P2, 1, none⟩ = some (.slice (some ⟨B2, 0, none⟩) len2 len2) ∧ Hid (E2 w f0 a0 len0 cap0 f2 a2 len2 cap2 xs ys P1 P2 B1 B2 w')) (first
        | (go_split_ands; exact e2S (Hid.out (by with_reducible assumption)))
        | (go_split_ands; exact e2S (E2.on (Hid.out (by with_reducible assumption)) hb))
        | (go_split_ands; exact e2S (E2.on (Hid.out (by with_reducible assumption)) (Below.drew (Below.refl _ _))))
        | fail)
        (first
          | (go_split_ands; go_at_call 24; ((with_reducible refine (TY2.out _ (by with_reducible assumption)).mono ?_); rintro e w' ⟨B4, rfl, hg3, hk3, hb⟩; have HK4 := Lib.hid hk3; clear hk3 hg3))
          | (go_split_ands; go_at_call 25; ((with_reducible refine (EY2.out _ _ (by with_reducible assumption) HK4).mono ?_); rintro e w' ⟨rfl, hb⟩))
          | fail)
      all_goals
        go_split_ands
        have HE : Hid (E2 w f0 a0 len0 cap0 f2 a2 len2 cap2 xs ys P1 P2 B1 B2 _) := (by with_reducible assumption)
        go_wp2_with fail
        go_ret
        exact ⟨rfl, HE.out.d2.k2.low⟩

set_option maxHeartbeats 4000000 in
theorem fnExactJointAnnuity_walk (f0 : Int) (a0 : Option Addr) (len0 cap0 : Nat) (z0 : List Int) (a1 : Int) (f2 : Int) (a2 : Option Addr) (len2 cap2 : Nat) (z2 : List Int) (a3 : Int) (a4 : Int) (a5 : Int) (w : World) (w0 : IsRow .i64 w a0 len0 cap0 z0) (w1 : (Lit.int .i64 a1).wf = true) (w2 : IsRow .i64 w a2 len2 cap2 z2) (w3 : (Lit.int .i64 a3).wf = true) (w4 : (Lit.int .i64 a4).wf = true) (w5 : (Lit.int .i64 a5).wf = true) :
    Calls Try.prog 7 #[.agg #[.int .i64 f0, .slice a0 len0 cap0], .int .i64 a1, .agg #[.int .i64 f2, .slice a2 len2 cap2], .int .i64 a3, .int .i64 a4, .int .i64 a5] w fun e w' => e = .returned (.bool true) ∧ Below w.heap.size w w' := by
  have hmx := w0.len_le
  have hmx2 := w2.len_le
  unfold maxLen at hmx hmx2
  have HK : Hid (K2 w f0 (.slice a0 len0 cap0) f2 (.slice a2 len2 cap2) ((w.alloc (.cells #[.int .i64 f0, .slice a0 len0 cap0] 39)).alloc (.cells #[.int .i64 f2, .slice a2 len2 cap2] 39))) := Lib.hid (K2.new _ _ _ _ _ _ _)
  by_cases hbig : (1048576 : Int) < len0
  · go_enter Try.func7, Try.ntmps7
    go_wp2_with fail
    refine (szT_big2 _ _ _ _ _ _ (by omega) (by omega) (by omega) hbig).mono ?_
    rintro e w1 ⟨rfl, hb⟩
    have HK := Lib.hid (HK.out.on hb)
    clear hb
    go_wp2_with fail
    go_ret
    exact ⟨rfl, HK.out.low⟩
  by_cases hbig2 : (1048576 : Int) - len0 < len2
  · go_enter Try.func7, Try.ntmps7
    go_wp2_with fail
    refine (szT_fit2 _ _ _ _ _ _ (by omega) (by omega) (by omega)).mono ?_
    rintro e w1 ⟨rfl, hb⟩
    have HK := Lib.hid (HK.out.on hb)
    obtain ⟨k0, k1, k2, k3, _⟩ := HK.out
    clear hb
    go_wp2_with fail
    refine (szT_big2 _ _ _ _ _ _ (by omega) (by omega) (by omega) hbig2).mono ?_
    rintro e w2 ⟨rfl, hb⟩
    have HK := Lib.hid (HK.out.on hb)
    clear hb
    go_wp2_with fail
    go_ret
    exact ⟨rfl, HK.out.low⟩
  have h0 := w0.ints (by omega)
  have h2 := w2.ints (by omega)
  obtain ⟨xs, hxs⟩ : ∃ xs, z0.take len0 = xs := ⟨_, rfl⟩
  obtain ⟨ys, hys⟩ : ∃ ys, z2.take len2 = ys := ⟨_, rfl⟩
  rw [hxs] at h0
  rw [hys] at h2
  have HL := Lib.hid h0.len
  have HL2 := Lib.hid h2.len
  have HD : Hid (D2 w f0 a0 len0 cap0 f2 a2 len2 cap2 xs ys ((w.alloc (.cells #[.int .i64 f0, .slice a0 len0 cap0] 39)).alloc (.cells #[.int .i64 f2, .slice a2 len2 cap2] 39))) := Lib.hid ⟨HK.out, h0.on ((box_b _ _).trans ((box_b _ _).mono (by simp))), h2.on ((box_b _ _).trans ((box_b _ _).mono (by simp)))⟩
  have hfit : (len0 : Int) ≤ 1048576 := by omega
  have hfit2 : (len2 : Int) ≤ 1048576 - len0 := by omega
  clear h0 h2 w0 w1 w2 w3 w4 w5 hxs hys hbig hbig2 hmx hmx2 HK
  obtain ⟨A, hA⟩ : ∃ y_, jaV a4 f0 xs a1 f2 ys a3 a5 = y_ := ⟨_, rfl⟩
  obtain ⟨B, hB⟩ : ∃ y_, moE a4 f0 xs a1 f2 ys a3 (inB a5 1 1000000) = y_ := ⟨_, rfl⟩
  have CS : Hid (∀ W b1 b2 c1 c2, Hid (Blk W b1 xs) → Hid (Blk W b2 ys) → Calls Try.prog 28 #[.agg #[.int .i64 f0, .slice (some ⟨b1, 0, none⟩) len0 c1], .int .i64 a1, .agg #[.int .i64 f2, .slice (some ⟨b2, 0, none⟩) len2 c2], .int .i64 a3, .int .i64 a4, .int .i64 a5] W fun e w' => e = .returned (.tuple #[.int .i64 A, .int .i64 B]) ∧ Below W.heap.size W w') :=
    Lib.hid (fun W b1 b2 c1 c2 hk hj => by have := sja_any f0 xs (some ⟨b1, 0, none⟩) len0 c1 a1 f2 ys (some ⟨b2, 0, none⟩) len2 c2 a3 a4 a5 W (hk.out.ints HL.out (by omega)) (hj.out.ints HL2.out (by omega)); unfold IIPost at this; rw [hA, hB] at this; exact this)
  have CI : Hid (∀ W b1 b2, Hid (Blk W b1 xs) → Hid (Blk W b2 ys) → Calls Try.prog 29 #[.agg #[.int .i64 f0, .slice (some ⟨b1, 0, none⟩) len0 len0], .int .i64 a1, .agg #[.int .i64 f2, .slice (some ⟨b2, 0, none⟩) len2 len2], .int .i64 a3, .int .i64 a4, .int .i64 a5] W fun e w' => e = .returned (.tuple #[.int .i64 A, .int .i64 B]) ∧ Below W.heap.size W w') :=
    Lib.hid (fun W b1 b2 hk hj => by have := ija_any f0 xs (some ⟨b1, 0, none⟩) len0 len0 a1 f2 ys (some ⟨b2, 0, none⟩) len2 len2 a3 a4 a5 W (hk.out.ints HL.out (by omega)) (hj.out.ints HL2.out (by omega)) (Nat.le_refl _) (Nat.le_refl _); unfold IIPost at this; rw [hA, hB] at this; exact this)
  clear hA hB
  have TX : Hid (∀ W, Hid (D2 w f0 a0 len0 cap0 f2 a2 len2 cap2 xs ys W) → Calls Try.prog 24 #[.agg #[.int .i64 f0, .slice a0 len0 cap0]] W (ToPost W f0 xs len0)) := Lib.hid (fun W hW => toT_any f0 xs _ _ _ W hW.out.xx (by omega))
  have TY : Hid (∀ W, Hid (D2 w f0 a0 len0 cap0 f2 a2 len2 cap2 xs ys W) → Calls Try.prog 24 #[.agg #[.int .i64 f2, .slice a2 len2 cap2]] W (ToPost W f2 ys len2)) := Lib.hid (fun W hW => toT_any f2 ys _ _ _ W hW.out.yy (by omega))
  have EX : Hid (∀ W b1 b2, Hid (Blk W b1 xs) → Hid (Blk W b2 xs) → Calls Try.prog 25 #[.agg #[.int .i64 f0, .slice (some ⟨b1, 0, none⟩) len0 len0], .agg #[.int .i64 f0, .slice (some ⟨b2, 0, none⟩) len0 len0]] W fun e w' => e = .returned (.bool true) ∧ Below W.heap.size W w') := Lib.hid (fun W b1 b2 hW hV => eqT_same f0 xs _ _ _ _ _ _ W (hW.out.ints HL.out (by omega)) (hV.out.ints HL.out (by omega)))
  have EY : Hid (∀ W b1 b2, Hid (Blk W b1 ys) → Hid (Blk W b2 ys) → Calls Try.prog 25 #[.agg #[.int .i64 f2, .slice (some ⟨b1, 0, none⟩) len2 len2], .agg #[.int .i64 f2, .slice (some ⟨b2, 0, none⟩) len2 len2]] W fun e w' => e = .returned (.bool true) ∧ Below W.heap.size W w') := Lib.hid (fun W b1 b2 hW hV => eqT_same f2 ys _ _ _ _ _ _ W (hW.out.ints HL2.out (by omega)) (hV.out.ints HL2.out (by omega)))
  go_enter Try.func7, Try.ntmps7
  go_wp2_with fail
  refine (szT_fit2 _ _ _ _ _ _ (by omega) (by omega) hfit).mono ?_
  rintro e w1 ⟨rfl, hb⟩
  have HD := Lib.hid (HD.out.on hb)
  obtain ⟨k0, k1, k2, k3, _⟩ := HD.out.k2
  clear hb
  go_wp2_with fail
  refine (szT_fit2 _ _ _ _ _ _ (by omega) (by omega) hfit2).mono ?_
  rintro e w2 ⟨rfl, hb⟩
  have HD := Lib.hid (HD.out.on hb)
  clear hb k0 k1 k2 k3
  obtain ⟨k0, k1, k2, k3, _⟩ := HD.out.k2
  go_wp2_with fail
  clear k0 k1 k2 k3
  go_region_held3 (fun w' => w'.cell? ⟨w.heap.size, 0, none⟩ = some (.int .i64 f0) ∧ w'.cell? ⟨w.heap.size, 1, none⟩ = some (.slice a0 len0 cap0) ∧ w'.cell? ⟨w.heap.size + 1, 0, none⟩ = some (.int .i64 f2) ∧ w'.cell? ⟨w.heap.size + 1, 1, none⟩ = some (.slice a2 len2 cap2) ∧ Hid (D2 w f0 a0 len0 cap0 f2 a2 len2 cap2 xs ys w')) (first
        | (go_split_ands; exact d2S (Hid.out (by with_reducible assumption)))
        | (go_split_ands; exact d2S (D2.on (Hid.out (by with_reducible assumption)) hb))
        | (go_split_ands; exact d2S (D2.on (Hid.out (by with_reducible assumption)) (Below.drew (Below.refl _ _))))
        | fail)
    (first
      | (go_split_ands; go_at_call 24; ((with_reducible refine (TX.out _ (by with_reducible assumption)).mono ?_); rintro e w' ⟨B1, rfl, hg1, hk1, hb⟩; have HB1 := Lib.hid hk1; clear hk1 hg1))
      | (go_split_ands; go_at_call 24; ((with_reducible refine (TY.out _ (by with_reducible assumption)).mono ?_); rintro e w' ⟨B2, rfl, hg2, hk2, hb⟩; replace HB1 := Lib.hid (HB1.out.step hb); have HB2 := Lib.hid hk2; clear hk2 hg2))
      | (go_split_ands; go_at_call 28; ((with_reducible refine (CS.out _ _ _ _ _ HB1 HB2).mono ?_); rintro e w' ⟨rfl, hb⟩))
      | fail)
  all_goals
    go_split_ands
    have HD : Hid (D2 w f0 a0 len0 cap0 f2 a2 len2 cap2 xs ys _) := (by with_reducible assumption)
    obtain ⟨k0, k1, k2, k3, _⟩ := HD.out.k2
    go_wp2_with fail
    with_reducible refine (TX.out _ HD).mono ?_
    rintro e w4 ⟨B1, rfl, hg1, hk1, hb⟩
    have hbx := box_b w4 (.cells #[.int .i64 f0, .slice (some ⟨B1, 0, none⟩) len0 len0] 26)
    have hp1 : Bx (w4.alloc (.cells #[.int .i64 f0, .slice (some ⟨B1, 0, none⟩) len0 len0] 26)) w4.heap.size [.int .i64 f0, .slice (some ⟨B1, 0, none⟩) len0 len0] := Bx.new w4 _ _
    have HD := Lib.hid ((HD.out.on hb).on hbx)
    have HB1 := Lib.hid (hk1.step hbx)
    obtain ⟨P1, hP1⟩ : ∃ y_, w4.heap.size = y_ := ⟨_, rfl⟩
    rw [hP1] at hp1
    clear hb hbx hk1 hg1 k0 k1 k2 k3
    obtain ⟨k0, k1, k2, k3, _⟩ := HD.out.k2
    go_wp2_with fail
    (try rw [hP1])
    generalize (w4.alloc (.cells #[.int .i64 f0, .slice (some ⟨B1, 0, none⟩) len0 len0] 26)) = v4 at HD HB1 hp1 k0 k1 k2 k3 ⊢
    clear hP1
    with_reducible refine (TY.out _ HD).mono ?_
    rintro e w5 ⟨B2, rfl, hg2, hk2, hb⟩
    have hbx := box_b w5 (.cells #[.int .i64 f2, .slice (some ⟨B2, 0, none⟩) len2 len2] 26)
    have hp2 : Bx (w5.alloc (.cells #[.int .i64 f2, .slice (some ⟨B2, 0, none⟩) len2 len2] 26)) w5.heap.size [.int .i64 f2, .slice (some ⟨B2, 0, none⟩) len2 len2] := Bx.new w5 _ _
    have HE : Hid (E2 w f0 a0 len0 cap0 f2 a2 len2 cap2 xs ys P1 w5.heap.size B1 B2 (w5.alloc (.cells #[.int .i64 f2, .slice (some ⟨B2, 0, none⟩) len2 len2] 26))) := Lib.hid ⟨(HD.out.on hb).on hbx, (hp1.on hb).on hbx, hp2, (HB1.out.step hb).step hbx, hk2.step hbx⟩
    obtain ⟨P2, hP2⟩ : ∃ y_, w5.heap.size = y_ := ⟨_, rfl⟩
    rw [hP2] at HE
    clear hb hbx hk2 hg2 hp1 hp2 HD HB1 k0 k1 k2 k3
    obtain ⟨k0, k1, k2, k3, k4, k5, k6, k7, _⟩ := e2S HE.out
    go_wp2_with fail
    (try rw [hP2])
    generalize (w5.alloc (.cells #[.int .i64 f2, .slice (some ⟨B2, 0, none⟩) len2 len2] 26)) = v5 at HE k0 k1 k2 k3 k4 k5 k6 k7 ⊢
    clear hP2
    with_reducible refine (CI.out _ _ _ (Lib.hid HE.out.b1) (Lib.hid HE.out.b2)).mono ?_
    rintro e w6 ⟨rfl, hb⟩
    have HE := Lib.hid (HE.out.on hb)
    clear hb k0 k1 k2 k3 k4 k5 k6 k7
    have TX2 : Hid (∀ W, Hid (E2 w f0 a0 len0 cap0 f2 a2 len2 cap2 xs ys P1 P2 B1 B2 W) → Calls Try.prog 24 #[.agg #[.int .i64 f0, .slice a0 len0 cap0]] W (ToPost W f0 xs len0)) := Lib.hid (fun W hW => TX.out W (Lib.hid hW.out.d2))
    have TY2 : Hid (∀ W, Hid (E2 w f0 a0 len0 cap0 f2 a2 len2 cap2 xs ys P1 P2 B1 B2 W) → Calls Try.prog 24 #[.agg #[.int .i64 f2, .slice a2 len2 cap2]] W (ToPost W f2 ys len2)) := Lib.hid (fun W hW => TY.out W (Lib.hid hW.out.d2))
    have EX2 : Hid (∀ W b2, Hid (E2 w f0 a0 len0 cap0 f2 a2 len2 cap2 xs ys P1 P2 B1 B2 W) → Hid (Blk W b2 xs) → Calls Try.prog 25 #[.agg #[.int .i64 f0, .slice (some ⟨B1, 0, none⟩) len0 len0], .agg #[.int .i64 f0, .slice (some ⟨b2, 0, none⟩) len0 len0]] W fun e w' => e = .returned (.bool true) ∧ Below W.heap.size W w') := Lib.hid (fun W b2 hW hb => EX.out W B1 b2 (Lib.hid hW.out.b1) hb)
    have EY2 : Hid (∀ W b2, Hid (E2 w f0 a0 len0 cap0 f2 a2 len2 cap2 xs ys P1 P2 B1 B2 W) → Hid (Blk W b2 ys) → Calls Try.prog 25 #[.agg #[.int .i64 f2, .slice (some ⟨B2, 0, none⟩) len2 len2], .agg #[.int .i64 f2, .slice (some ⟨b2, 0, none⟩) len2 len2]] W fun e w' => e = .returned (.bool true) ∧ Below W.heap.size W w') := Lib.hid (fun W b2 hW hb => EY.out W B2 b2 (Lib.hid hW.out.b2) hb)
    go_wp2_with fail
    go_region_held3 (fun w' => w'.cell? ⟨w.heap.size, 0, none⟩ = some (.int .i64 f0) ∧ w'.cell? ⟨w.heap.size, 1, none⟩ = some (.slice a0 len0 cap0) ∧ w'.cell? ⟨w.heap.size + 1, 0, none⟩ = some (.int .i64 f2) ∧ w'.cell? ⟨w.heap.size + 1, 1, none⟩ = some (.slice a2 len2 cap2) ∧ w'.cell? ⟨P1, 0, none⟩ = some (.int .i64 f0) ∧ w'.cell? ⟨P1, 1, none⟩ = some (.slice (some ⟨B1, 0, none⟩) len0 len0) ∧ w'.cell? ⟨P2, 0, none⟩ = some (.int .i64 f2) ∧ w'.cell? ⟨P2, 1, none⟩ = some (.slice (some ⟨B2, 0, none⟩) len2 len2) ∧ Hid (E2 w f0 a0 len0 cap0 f2 a2 len2 cap2 xs ys P1 P2 B1 B2 w')) (first
        | (go_split_ands; exact e2S (Hid.out (by with_reducible assumption)))
        | (go_split_ands; exact e2S (E2.on (Hid.out (by with_reducible assumption)) hb))
        | (go_split_ands; exact e2S (E2.on (Hid.out (by with_reducible assumption)) (Below.drew (Below.refl _ _))))
        | fail)
      (first
        | (go_split_ands; go_at_call 24; ((with_reducible refine (TX2.out _ (by with_reducible assumption)).mono ?_); rintro e w' ⟨B3, rfl, hg3, hk3, hb⟩; have HK3 := Lib.hid hk3; clear hk3 hg3))
        | (go_split_ands; go_at_call 25; ((with_reducible refine (EX2.out _ _ (by with_reducible assumption) HK3).mono ?_); rintro e w' ⟨rfl, hb⟩))
        | fail)
    all_goals
      go_split_ands
      have HE : Hid (E2 w f0 a0 len0 cap0 f2 a2 len2 cap2 xs ys P1 P2 B1 B2 _) := (by with_reducible assumption)
      go_wp2_with fail
      go_region_held3 (fun w' => w'.cell? ⟨w.heap.size, 0, none⟩ = some (.int .i64 f0) ∧ w'.cell? ⟨w.heap.size, 1, none⟩ = some (.slice a0 len0 cap0) ∧ w'.cell? ⟨w.heap.size + 1, 0, none⟩ = some (.int .i64 f2) ∧ w'.cell? ⟨w.heap.size + 1, 1, none⟩ = some (.slice a2 len2 cap2) ∧ w'.cell? ⟨P1, 0, none⟩ = some (.int .i64 f0) ∧ w'.cell? ⟨P1, 1, none⟩ = some (.slice (some ⟨B1, 0, none⟩) len0 len0) ∧ w'.cell? ⟨P2, 0, none⟩ = some (.int .i64 f2) ∧ w'.cell? ⟨P2, 1, none⟩ = some (.slice (some ⟨B2, 0, none⟩) len2 len2) ∧ Hid (E2 w f0 a0 len0 cap0 f2 a2 len2 cap2 xs ys P1 P2 B1 B2 w')) (first
        | (go_split_ands; exact e2S (Hid.out (by with_reducible assumption)))
        | (go_split_ands; exact e2S (E2.on (Hid.out (by with_reducible assumption)) hb))
        | (go_split_ands; exact e2S (E2.on (Hid.out (by with_reducible assumption)) (Below.drew (Below.refl _ _))))
        | fail)
        (first
          | (go_split_ands; go_at_call 24; ((with_reducible refine (TY2.out _ (by with_reducible assumption)).mono ?_); rintro e w' ⟨B4, rfl, hg3, hk3, hb⟩; have HK4 := Lib.hid hk3; clear hk3 hg3))
          | (go_split_ands; go_at_call 25; ((with_reducible refine (EY2.out _ _ (by with_reducible assumption) HK4).mono ?_); rintro e w' ⟨rfl, hb⟩))
          | fail)
      all_goals
        go_split_ands
        have HE : Hid (E2 w f0 a0 len0 cap0 f2 a2 len2 cap2 xs ys P1 P2 B1 B2 _) := (by with_reducible assumption)
        go_wp2_with fail
        go_ret
        exact ⟨rfl, HE.out.d2.k2.low⟩

set_option maxHeartbeats 4000000 in
theorem fnExactWidowAnnuity_walk (f0 : Int) (a0 : Option Addr) (len0 cap0 : Nat) (z0 : List Int) (a1 : Int) (f2 : Int) (a2 : Option Addr) (len2 cap2 : Nat) (z2 : List Int) (a3 : Int) (a4 : Int) (a5 : Int) (w : World) (w0 : IsRow .i64 w a0 len0 cap0 z0) (w1 : (Lit.int .i64 a1).wf = true) (w2 : IsRow .i64 w a2 len2 cap2 z2) (w3 : (Lit.int .i64 a3).wf = true) (w4 : (Lit.int .i64 a4).wf = true) (w5 : (Lit.int .i64 a5).wf = true) :
    Calls Try.prog 8 #[.agg #[.int .i64 f0, .slice a0 len0 cap0], .int .i64 a1, .agg #[.int .i64 f2, .slice a2 len2 cap2], .int .i64 a3, .int .i64 a4, .int .i64 a5] w fun e w' => e = .returned (.bool true) ∧ Below w.heap.size w w' := by
  have hmx := w0.len_le
  have hmx2 := w2.len_le
  unfold maxLen at hmx hmx2
  have HK : Hid (K2 w f0 (.slice a0 len0 cap0) f2 (.slice a2 len2 cap2) ((w.alloc (.cells #[.int .i64 f0, .slice a0 len0 cap0] 39)).alloc (.cells #[.int .i64 f2, .slice a2 len2 cap2] 39))) := Lib.hid (K2.new _ _ _ _ _ _ _)
  by_cases hbig : (1048576 : Int) < len0
  · go_enter Try.func8, Try.ntmps8
    go_wp2_with fail
    refine (szT_big2 _ _ _ _ _ _ (by omega) (by omega) (by omega) hbig).mono ?_
    rintro e w1 ⟨rfl, hb⟩
    have HK := Lib.hid (HK.out.on hb)
    clear hb
    go_wp2_with fail
    go_ret
    exact ⟨rfl, HK.out.low⟩
  by_cases hbig2 : (1048576 : Int) - len0 < len2
  · go_enter Try.func8, Try.ntmps8
    go_wp2_with fail
    refine (szT_fit2 _ _ _ _ _ _ (by omega) (by omega) (by omega)).mono ?_
    rintro e w1 ⟨rfl, hb⟩
    have HK := Lib.hid (HK.out.on hb)
    obtain ⟨k0, k1, k2, k3, _⟩ := HK.out
    clear hb
    go_wp2_with fail
    refine (szT_big2 _ _ _ _ _ _ (by omega) (by omega) (by omega) hbig2).mono ?_
    rintro e w2 ⟨rfl, hb⟩
    have HK := Lib.hid (HK.out.on hb)
    clear hb
    go_wp2_with fail
    go_ret
    exact ⟨rfl, HK.out.low⟩
  have h0 := w0.ints (by omega)
  have h2 := w2.ints (by omega)
  obtain ⟨xs, hxs⟩ : ∃ xs, z0.take len0 = xs := ⟨_, rfl⟩
  obtain ⟨ys, hys⟩ : ∃ ys, z2.take len2 = ys := ⟨_, rfl⟩
  rw [hxs] at h0
  rw [hys] at h2
  have HL := Lib.hid h0.len
  have HL2 := Lib.hid h2.len
  have HD : Hid (D2 w f0 a0 len0 cap0 f2 a2 len2 cap2 xs ys ((w.alloc (.cells #[.int .i64 f0, .slice a0 len0 cap0] 39)).alloc (.cells #[.int .i64 f2, .slice a2 len2 cap2] 39))) := Lib.hid ⟨HK.out, h0.on ((box_b _ _).trans ((box_b _ _).mono (by simp))), h2.on ((box_b _ _).trans ((box_b _ _).mono (by simp)))⟩
  have hfit : (len0 : Int) ≤ 1048576 := by omega
  have hfit2 : (len2 : Int) ≤ 1048576 - len0 := by omega
  clear h0 h2 w0 w1 w2 w3 w4 w5 hxs hys hbig hbig2 hmx hmx2 HK
  obtain ⟨A, hA⟩ : ∃ y_, waV a4 f0 xs a1 f2 ys a3 a5 = y_ := ⟨_, rfl⟩
  obtain ⟨B, hB⟩ : ∃ y_, moE a4 f0 xs a1 f2 ys a3 (inB a5 1 1000000) = y_ := ⟨_, rfl⟩
  have CS : Hid (∀ W b1 b2 c1 c2, Hid (Blk W b1 xs) → Hid (Blk W b2 ys) → Calls Try.prog 30 #[.agg #[.int .i64 f0, .slice (some ⟨b1, 0, none⟩) len0 c1], .int .i64 a1, .agg #[.int .i64 f2, .slice (some ⟨b2, 0, none⟩) len2 c2], .int .i64 a3, .int .i64 a4, .int .i64 a5] W fun e w' => e = .returned (.tuple #[.int .i64 A, .int .i64 B]) ∧ Below W.heap.size W w') :=
    Lib.hid (fun W b1 b2 c1 c2 hk hj => by have := swa_any f0 xs (some ⟨b1, 0, none⟩) len0 c1 a1 f2 ys (some ⟨b2, 0, none⟩) len2 c2 a3 a4 a5 W (hk.out.ints HL.out (by omega)) (hj.out.ints HL2.out (by omega)); unfold IIPost at this; rw [hA, hB] at this; exact this)
  have CI : Hid (∀ W b1 b2, Hid (Blk W b1 xs) → Hid (Blk W b2 ys) → Calls Try.prog 31 #[.agg #[.int .i64 f0, .slice (some ⟨b1, 0, none⟩) len0 len0], .int .i64 a1, .agg #[.int .i64 f2, .slice (some ⟨b2, 0, none⟩) len2 len2], .int .i64 a3, .int .i64 a4, .int .i64 a5] W fun e w' => e = .returned (.tuple #[.int .i64 A, .int .i64 B]) ∧ Below W.heap.size W w') :=
    Lib.hid (fun W b1 b2 hk hj => by have := iwa_any f0 xs (some ⟨b1, 0, none⟩) len0 len0 a1 f2 ys (some ⟨b2, 0, none⟩) len2 len2 a3 a4 a5 W (hk.out.ints HL.out (by omega)) (hj.out.ints HL2.out (by omega)) (Nat.le_refl _) (Nat.le_refl _); unfold IIPost at this; rw [hA, hB] at this; exact this)
  clear hA hB
  have TX : Hid (∀ W, Hid (D2 w f0 a0 len0 cap0 f2 a2 len2 cap2 xs ys W) → Calls Try.prog 24 #[.agg #[.int .i64 f0, .slice a0 len0 cap0]] W (ToPost W f0 xs len0)) := Lib.hid (fun W hW => toT_any f0 xs _ _ _ W hW.out.xx (by omega))
  have TY : Hid (∀ W, Hid (D2 w f0 a0 len0 cap0 f2 a2 len2 cap2 xs ys W) → Calls Try.prog 24 #[.agg #[.int .i64 f2, .slice a2 len2 cap2]] W (ToPost W f2 ys len2)) := Lib.hid (fun W hW => toT_any f2 ys _ _ _ W hW.out.yy (by omega))
  have EX : Hid (∀ W b1 b2, Hid (Blk W b1 xs) → Hid (Blk W b2 xs) → Calls Try.prog 25 #[.agg #[.int .i64 f0, .slice (some ⟨b1, 0, none⟩) len0 len0], .agg #[.int .i64 f0, .slice (some ⟨b2, 0, none⟩) len0 len0]] W fun e w' => e = .returned (.bool true) ∧ Below W.heap.size W w') := Lib.hid (fun W b1 b2 hW hV => eqT_same f0 xs _ _ _ _ _ _ W (hW.out.ints HL.out (by omega)) (hV.out.ints HL.out (by omega)))
  have EY : Hid (∀ W b1 b2, Hid (Blk W b1 ys) → Hid (Blk W b2 ys) → Calls Try.prog 25 #[.agg #[.int .i64 f2, .slice (some ⟨b1, 0, none⟩) len2 len2], .agg #[.int .i64 f2, .slice (some ⟨b2, 0, none⟩) len2 len2]] W fun e w' => e = .returned (.bool true) ∧ Below W.heap.size W w') := Lib.hid (fun W b1 b2 hW hV => eqT_same f2 ys _ _ _ _ _ _ W (hW.out.ints HL2.out (by omega)) (hV.out.ints HL2.out (by omega)))
  go_enter Try.func8, Try.ntmps8
  go_wp2_with fail
  refine (szT_fit2 _ _ _ _ _ _ (by omega) (by omega) hfit).mono ?_
  rintro e w1 ⟨rfl, hb⟩
  have HD := Lib.hid (HD.out.on hb)
  obtain ⟨k0, k1, k2, k3, _⟩ := HD.out.k2
  clear hb
  go_wp2_with fail
  refine (szT_fit2 _ _ _ _ _ _ (by omega) (by omega) hfit2).mono ?_
  rintro e w2 ⟨rfl, hb⟩
  have HD := Lib.hid (HD.out.on hb)
  clear hb k0 k1 k2 k3
  obtain ⟨k0, k1, k2, k3, _⟩ := HD.out.k2
  go_wp2_with fail
  clear k0 k1 k2 k3
  go_region_held3 (fun w' => w'.cell? ⟨w.heap.size, 0, none⟩ = some (.int .i64 f0) ∧ w'.cell? ⟨w.heap.size, 1, none⟩ = some (.slice a0 len0 cap0) ∧ w'.cell? ⟨w.heap.size + 1, 0, none⟩ = some (.int .i64 f2) ∧ w'.cell? ⟨w.heap.size + 1, 1, none⟩ = some (.slice a2 len2 cap2) ∧ Hid (D2 w f0 a0 len0 cap0 f2 a2 len2 cap2 xs ys w')) (first
        | (go_split_ands; exact d2S (Hid.out (by with_reducible assumption)))
        | (go_split_ands; exact d2S (D2.on (Hid.out (by with_reducible assumption)) hb))
        | (go_split_ands; exact d2S (D2.on (Hid.out (by with_reducible assumption)) (Below.drew (Below.refl _ _))))
        | fail)
    (first
      | (go_split_ands; go_at_call 24; ((with_reducible refine (TX.out _ (by with_reducible assumption)).mono ?_); rintro e w' ⟨B1, rfl, hg1, hk1, hb⟩; have HB1 := Lib.hid hk1; clear hk1 hg1))
      | (go_split_ands; go_at_call 24; ((with_reducible refine (TY.out _ (by with_reducible assumption)).mono ?_); rintro e w' ⟨B2, rfl, hg2, hk2, hb⟩; replace HB1 := Lib.hid (HB1.out.step hb); have HB2 := Lib.hid hk2; clear hk2 hg2))
      | (go_split_ands; go_at_call 30; ((with_reducible refine (CS.out _ _ _ _ _ HB1 HB2).mono ?_); rintro e w' ⟨rfl, hb⟩))
      | fail)
  all_goals
    go_split_ands
    have HD : Hid (D2 w f0 a0 len0 cap0 f2 a2 len2 cap2 xs ys _) := (by with_reducible assumption)
    obtain ⟨k0, k1, k2, k3, _⟩ := HD.out.k2
    go_wp2_with fail
    with_reducible refine (TX.out _ HD).mono ?_
    rintro e w4 ⟨B1, rfl, hg1, hk1, hb⟩
    have hbx := box_b w4 (.cells #[.int .i64 f0, .slice (some ⟨B1, 0, none⟩) len0 len0] 26)
    have hp1 : Bx (w4.alloc (.cells #[.int .i64 f0, .slice (some ⟨B1, 0, none⟩) len0 len0] 26)) w4.heap.size [.int .i64 f0, .slice (some ⟨B1, 0, none⟩) len0 len0] := Bx.new w4 _ _
    have HD := Lib.hid ((HD.out.on hb).on hbx)
    have HB1 := Lib.hid (hk1.step hbx)
    obtain ⟨P1, hP1⟩ : ∃ y_, w4.heap.size = y_ := ⟨_, rfl⟩
    rw [hP1] at hp1
    clear hb hbx hk1 hg1 k0 k1 k2 k3
    obtain ⟨k0, k1, k2, k3, _⟩ := HD.out.k2
    go_wp2_with fail
    (try rw [hP1])
    generalize (w4.alloc (.cells #[.int .i64 f0, .slice (some ⟨B1, 0, none⟩) len0 len0] 26)) = v4 at HD HB1 hp1 k0 k1 k2 k3 ⊢
    clear hP1
    with_reducible refine (TY.out _ HD).mono ?_
    rintro e w5 ⟨B2, rfl, hg2, hk2, hb⟩
    have hbx := box_b w5 (.cells #[.int .i64 f2, .slice (some ⟨B2, 0, none⟩) len2 len2] 26)
    have hp2 : Bx (w5.alloc (.cells #[.int .i64 f2, .slice (some ⟨B2, 0, none⟩) len2 len2] 26)) w5.heap.size [.int .i64 f2, .slice (some ⟨B2, 0, none⟩) len2 len2] := Bx.new w5 _ _
    have HE : Hid (E2 w f0 a0 len0 cap0 f2 a2 len2 cap2 xs ys P1 w5.heap.size B1 B2 (w5.alloc (.cells #[.int .i64 f2, .slice (some ⟨B2, 0, none⟩) len2 len2] 26))) := Lib.hid ⟨(HD.out.on hb).on hbx, (hp1.on hb).on hbx, hp2, (HB1.out.step hb).step hbx, hk2.step hbx⟩
    obtain ⟨P2, hP2⟩ : ∃ y_, w5.heap.size = y_ := ⟨_, rfl⟩
    rw [hP2] at HE
    clear hb hbx hk2 hg2 hp1 hp2 HD HB1 k0 k1 k2 k3
    obtain ⟨k0, k1, k2, k3, k4, k5, k6, k7, _⟩ := e2S HE.out
    go_wp2_with fail
    (try rw [hP2])
    generalize (w5.alloc (.cells #[.int .i64 f2, .slice (some ⟨B2, 0, none⟩) len2 len2] 26)) = v5 at HE k0 k1 k2 k3 k4 k5 k6 k7 ⊢
    clear hP2
    with_reducible refine (CI.out _ _ _ (Lib.hid HE.out.b1) (Lib.hid HE.out.b2)).mono ?_
    rintro e w6 ⟨rfl, hb⟩
    have HE := Lib.hid (HE.out.on hb)
    clear hb k0 k1 k2 k3 k4 k5 k6 k7
    have TX2 : Hid (∀ W, Hid (E2 w f0 a0 len0 cap0 f2 a2 len2 cap2 xs ys P1 P2 B1 B2 W) → Calls Try.prog 24 #[.agg #[.int .i64 f0, .slice a0 len0 cap0]] W (ToPost W f0 xs len0)) := Lib.hid (fun W hW => TX.out W (Lib.hid hW.out.d2))
    have TY2 : Hid (∀ W, Hid (E2 w f0 a0 len0 cap0 f2 a2 len2 cap2 xs ys P1 P2 B1 B2 W) → Calls Try.prog 24 #[.agg #[.int .i64 f2, .slice a2 len2 cap2]] W (ToPost W f2 ys len2)) := Lib.hid (fun W hW => TY.out W (Lib.hid hW.out.d2))
    have EX2 : Hid (∀ W b2, Hid (E2 w f0 a0 len0 cap0 f2 a2 len2 cap2 xs ys P1 P2 B1 B2 W) → Hid (Blk W b2 xs) → Calls Try.prog 25 #[.agg #[.int .i64 f0, .slice (some ⟨B1, 0, none⟩) len0 len0], .agg #[.int .i64 f0, .slice (some ⟨b2, 0, none⟩) len0 len0]] W fun e w' => e = .returned (.bool true) ∧ Below W.heap.size W w') := Lib.hid (fun W b2 hW hb => EX.out W B1 b2 (Lib.hid hW.out.b1) hb)
    have EY2 : Hid (∀ W b2, Hid (E2 w f0 a0 len0 cap0 f2 a2 len2 cap2 xs ys P1 P2 B1 B2 W) → Hid (Blk W b2 ys) → Calls Try.prog 25 #[.agg #[.int .i64 f2, .slice (some ⟨B2, 0, none⟩) len2 len2], .agg #[.int .i64 f2, .slice (some ⟨b2, 0, none⟩) len2 len2]] W fun e w' => e = .returned (.bool true) ∧ Below W.heap.size W w') := Lib.hid (fun W b2 hW hb => EY.out W B2 b2 (Lib.hid hW.out.b2) hb)
    go_wp2_with fail
    go_region_held3 (fun w' => w'.cell? ⟨w.heap.size, 0, none⟩ = some (.int .i64 f0) ∧ w'.cell? ⟨w.heap.size, 1, none⟩ = some (.slice a0 len0 cap0) ∧ w'.cell? ⟨w.heap.size + 1, 0, none⟩ = some (.int .i64 f2) ∧ w'.cell? ⟨w.heap.size + 1, 1, none⟩ = some (.slice a2 len2 cap2) ∧ w'.cell? ⟨P1, 0, none⟩ = some (.int .i64 f0) ∧ w'.cell? ⟨P1, 1, none⟩ = some (.slice (some ⟨B1, 0, none⟩) len0 len0) ∧ w'.cell? ⟨P2, 0, none⟩ = some (.int .i64 f2) ∧ w'.cell? ⟨P2, 1, none⟩ = some (.slice (some ⟨B2, 0, none⟩) len2 len2) ∧ Hid (E2 w f0 a0 len0 cap0 f2 a2 len2 cap2 xs ys P1 P2 B1 B2 w')) (first
        | (go_split_ands; exact e2S (Hid.out (by with_reducible assumption)))
        | (go_split_ands; exact e2S (E2.on (Hid.out (by with_reducible assumption)) hb))
        | (go_split_ands; exact e2S (E2.on (Hid.out (by with_reducible assumption)) (Below.drew (Below.refl _ _))))
        | fail)
      (first
        | (go_split_ands; go_at_call 24; ((with_reducible refine (TX2.out _ (by with_reducible assumption)).mono ?_); rintro e w' ⟨B3, rfl, hg3, hk3, hb⟩; have HK3 := Lib.hid hk3; clear hk3 hg3))
        | (go_split_ands; go_at_call 25; ((with_reducible refine (EX2.out _ _ (by with_reducible assumption) HK3).mono ?_); rintro e w' ⟨rfl, hb⟩))
        | fail)
    all_goals
      go_split_ands
      have HE : Hid (E2 w f0 a0 len0 cap0 f2 a2 len2 cap2 xs ys P1 P2 B1 B2 _) := (by with_reducible assumption)
      go_wp2_with fail
      go_region_held3 (fun w' => w'.cell? ⟨w.heap.size, 0, none⟩ = some (.int .i64 f0) ∧ w'.cell? ⟨w.heap.size, 1, none⟩ = some (.slice a0 len0 cap0) ∧ w'.cell? ⟨w.heap.size + 1, 0, none⟩ = some (.int .i64 f2) ∧ w'.cell? ⟨w.heap.size + 1, 1, none⟩ = some (.slice a2 len2 cap2) ∧ w'.cell? ⟨P1, 0, none⟩ = some (.int .i64 f0) ∧ w'.cell? ⟨P1, 1, none⟩ = some (.slice (some ⟨B1, 0, none⟩) len0 len0) ∧ w'.cell? ⟨P2, 0, none⟩ = some (.int .i64 f2) ∧ w'.cell? ⟨P2, 1, none⟩ = some (.slice (some ⟨B2, 0, none⟩) len2 len2) ∧ Hid (E2 w f0 a0 len0 cap0 f2 a2 len2 cap2 xs ys P1 P2 B1 B2 w')) (first
        | (go_split_ands; exact e2S (Hid.out (by with_reducible assumption)))
        | (go_split_ands; exact e2S (E2.on (Hid.out (by with_reducible assumption)) hb))
        | (go_split_ands; exact e2S (E2.on (Hid.out (by with_reducible assumption)) (Below.drew (Below.refl _ _))))
        | fail)
        (first
          | (go_split_ands; go_at_call 24; ((with_reducible refine (TY2.out _ (by with_reducible assumption)).mono ?_); rintro e w' ⟨B4, rfl, hg3, hk3, hb⟩; have HK4 := Lib.hid hk3; clear hk3 hg3))
          | (go_split_ands; go_at_call 25; ((with_reducible refine (EY2.out _ _ (by with_reducible assumption) HK4).mono ?_); rintro e w' ⟨rfl, hb⟩))
          | fail)
      all_goals
        go_split_ands
        have HE : Hid (E2 w f0 a0 len0 cap0 f2 a2 len2 cap2 xs ys P1 P2 B1 B2 _) := (by with_reducible assumption)
        go_wp2_with fail
        go_ret
        exact ⟨rfl, HE.out.d2.k2.low⟩

set_option maxHeartbeats 4000000 in
theorem fnExactLastAnnuity_walk (f0 : Int) (a0 : Option Addr) (len0 cap0 : Nat) (z0 : List Int) (a1 : Int) (f2 : Int) (a2 : Option Addr) (len2 cap2 : Nat) (z2 : List Int) (a3 : Int) (a4 : Int) (a5 : Int) (w : World) (w0 : IsRow .i64 w a0 len0 cap0 z0) (w1 : (Lit.int .i64 a1).wf = true) (w2 : IsRow .i64 w a2 len2 cap2 z2) (w3 : (Lit.int .i64 a3).wf = true) (w4 : (Lit.int .i64 a4).wf = true) (w5 : (Lit.int .i64 a5).wf = true) :
    Calls Try.prog 9 #[.agg #[.int .i64 f0, .slice a0 len0 cap0], .int .i64 a1, .agg #[.int .i64 f2, .slice a2 len2 cap2], .int .i64 a3, .int .i64 a4, .int .i64 a5] w fun e w' => e = .returned (.bool true) ∧ Below w.heap.size w w' := by
  have hmx := w0.len_le
  have hmx2 := w2.len_le
  unfold maxLen at hmx hmx2
  have HK : Hid (K2 w f0 (.slice a0 len0 cap0) f2 (.slice a2 len2 cap2) ((w.alloc (.cells #[.int .i64 f0, .slice a0 len0 cap0] 39)).alloc (.cells #[.int .i64 f2, .slice a2 len2 cap2] 39))) := Lib.hid (K2.new _ _ _ _ _ _ _)
  by_cases hbig : (1048576 : Int) < len0
  · go_enter Try.func9, Try.ntmps9
    go_wp2_with fail
    refine (szT_big2 _ _ _ _ _ _ (by omega) (by omega) (by omega) hbig).mono ?_
    rintro e w1 ⟨rfl, hb⟩
    have HK := Lib.hid (HK.out.on hb)
    clear hb
    go_wp2_with fail
    go_ret
    exact ⟨rfl, HK.out.low⟩
  by_cases hbig2 : (1048576 : Int) - len0 < len2
  · go_enter Try.func9, Try.ntmps9
    go_wp2_with fail
    refine (szT_fit2 _ _ _ _ _ _ (by omega) (by omega) (by omega)).mono ?_
    rintro e w1 ⟨rfl, hb⟩
    have HK := Lib.hid (HK.out.on hb)
    obtain ⟨k0, k1, k2, k3, _⟩ := HK.out
    clear hb
    go_wp2_with fail
    refine (szT_big2 _ _ _ _ _ _ (by omega) (by omega) (by omega) hbig2).mono ?_
    rintro e w2 ⟨rfl, hb⟩
    have HK := Lib.hid (HK.out.on hb)
    clear hb
    go_wp2_with fail
    go_ret
    exact ⟨rfl, HK.out.low⟩
  have h0 := w0.ints (by omega)
  have h2 := w2.ints (by omega)
  obtain ⟨xs, hxs⟩ : ∃ xs, z0.take len0 = xs := ⟨_, rfl⟩
  obtain ⟨ys, hys⟩ : ∃ ys, z2.take len2 = ys := ⟨_, rfl⟩
  rw [hxs] at h0
  rw [hys] at h2
  have HL := Lib.hid h0.len
  have HL2 := Lib.hid h2.len
  have HD : Hid (D2 w f0 a0 len0 cap0 f2 a2 len2 cap2 xs ys ((w.alloc (.cells #[.int .i64 f0, .slice a0 len0 cap0] 39)).alloc (.cells #[.int .i64 f2, .slice a2 len2 cap2] 39))) := Lib.hid ⟨HK.out, h0.on ((box_b _ _).trans ((box_b _ _).mono (by simp))), h2.on ((box_b _ _).trans ((box_b _ _).mono (by simp)))⟩
  have hfit : (len0 : Int) ≤ 1048576 := by omega
  have hfit2 : (len2 : Int) ≤ 1048576 - len0 := by omega
  clear h0 h2 w0 w1 w2 w3 w4 w5 hxs hys hbig hbig2 hmx hmx2 HK
  obtain ⟨A, hA⟩ : ∃ y_, lastV a4 f0 xs a1 f2 ys a3 a5 = y_ := ⟨_, rfl⟩
  obtain ⟨B, hB⟩ : ∃ y_, moE a4 f0 xs a1 f2 ys a3 (inB a5 1 1000000) = y_ := ⟨_, rfl⟩
  have CS : Hid (∀ W b1 b2 c1 c2, Hid (Blk W b1 xs) → Hid (Blk W b2 ys) → Calls Try.prog 32 #[.agg #[.int .i64 f0, .slice (some ⟨b1, 0, none⟩) len0 c1], .int .i64 a1, .agg #[.int .i64 f2, .slice (some ⟨b2, 0, none⟩) len2 c2], .int .i64 a3, .int .i64 a4, .int .i64 a5] W fun e w' => e = .returned (.tuple #[.int .i64 A, .int .i64 B]) ∧ Below W.heap.size W w') :=
    Lib.hid (fun W b1 b2 c1 c2 hk hj => by have := sla_any f0 xs (some ⟨b1, 0, none⟩) len0 c1 a1 f2 ys (some ⟨b2, 0, none⟩) len2 c2 a3 a4 a5 W (hk.out.ints HL.out (by omega)) (hj.out.ints HL2.out (by omega)); unfold IIPost at this; rw [hA, hB] at this; exact this)
  have CI : Hid (∀ W b1 b2, Hid (Blk W b1 xs) → Hid (Blk W b2 ys) → Calls Try.prog 33 #[.agg #[.int .i64 f0, .slice (some ⟨b1, 0, none⟩) len0 len0], .int .i64 a1, .agg #[.int .i64 f2, .slice (some ⟨b2, 0, none⟩) len2 len2], .int .i64 a3, .int .i64 a4, .int .i64 a5] W fun e w' => e = .returned (.tuple #[.int .i64 A, .int .i64 B]) ∧ Below W.heap.size W w') :=
    Lib.hid (fun W b1 b2 hk hj => by have := ila_any f0 xs (some ⟨b1, 0, none⟩) len0 len0 a1 f2 ys (some ⟨b2, 0, none⟩) len2 len2 a3 a4 a5 W (hk.out.ints HL.out (by omega)) (hj.out.ints HL2.out (by omega)) (Nat.le_refl _) (Nat.le_refl _); unfold IIPost at this; rw [hA, hB] at this; exact this)
  clear hA hB
  have TX : Hid (∀ W, Hid (D2 w f0 a0 len0 cap0 f2 a2 len2 cap2 xs ys W) → Calls Try.prog 24 #[.agg #[.int .i64 f0, .slice a0 len0 cap0]] W (ToPost W f0 xs len0)) := Lib.hid (fun W hW => toT_any f0 xs _ _ _ W hW.out.xx (by omega))
  have TY : Hid (∀ W, Hid (D2 w f0 a0 len0 cap0 f2 a2 len2 cap2 xs ys W) → Calls Try.prog 24 #[.agg #[.int .i64 f2, .slice a2 len2 cap2]] W (ToPost W f2 ys len2)) := Lib.hid (fun W hW => toT_any f2 ys _ _ _ W hW.out.yy (by omega))
  have EX : Hid (∀ W b1 b2, Hid (Blk W b1 xs) → Hid (Blk W b2 xs) → Calls Try.prog 25 #[.agg #[.int .i64 f0, .slice (some ⟨b1, 0, none⟩) len0 len0], .agg #[.int .i64 f0, .slice (some ⟨b2, 0, none⟩) len0 len0]] W fun e w' => e = .returned (.bool true) ∧ Below W.heap.size W w') := Lib.hid (fun W b1 b2 hW hV => eqT_same f0 xs _ _ _ _ _ _ W (hW.out.ints HL.out (by omega)) (hV.out.ints HL.out (by omega)))
  have EY : Hid (∀ W b1 b2, Hid (Blk W b1 ys) → Hid (Blk W b2 ys) → Calls Try.prog 25 #[.agg #[.int .i64 f2, .slice (some ⟨b1, 0, none⟩) len2 len2], .agg #[.int .i64 f2, .slice (some ⟨b2, 0, none⟩) len2 len2]] W fun e w' => e = .returned (.bool true) ∧ Below W.heap.size W w') := Lib.hid (fun W b1 b2 hW hV => eqT_same f2 ys _ _ _ _ _ _ W (hW.out.ints HL2.out (by omega)) (hV.out.ints HL2.out (by omega)))
  go_enter Try.func9, Try.ntmps9
  go_wp2_with fail
  refine (szT_fit2 _ _ _ _ _ _ (by omega) (by omega) hfit).mono ?_
  rintro e w1 ⟨rfl, hb⟩
  have HD := Lib.hid (HD.out.on hb)
  obtain ⟨k0, k1, k2, k3, _⟩ := HD.out.k2
  clear hb
  go_wp2_with fail
  refine (szT_fit2 _ _ _ _ _ _ (by omega) (by omega) hfit2).mono ?_
  rintro e w2 ⟨rfl, hb⟩
  have HD := Lib.hid (HD.out.on hb)
  clear hb k0 k1 k2 k3
  obtain ⟨k0, k1, k2, k3, _⟩ := HD.out.k2
  go_wp2_with fail
  clear k0 k1 k2 k3
  go_region_held3 (fun w' => w'.cell? ⟨w.heap.size, 0, none⟩ = some (.int .i64 f0) ∧ w'.cell? ⟨w.heap.size, 1, none⟩ = some (.slice a0 len0 cap0) ∧ w'.cell? ⟨w.heap.size + 1, 0, none⟩ = some (.int .i64 f2) ∧ w'.cell? ⟨w.heap.size + 1, 1, none⟩ = some (.slice a2 len2 cap2) ∧ Hid (D2 w f0 a0 len0 cap0 f2 a2 len2 cap2 xs ys w')) (first
        | (go_split_ands; exact d2S (Hid.out (by with_reducible assumption)))
        | (go_split_ands; exact d2S (D2.on (Hid.out (by with_reducible assumption)) hb))
        | (go_split_ands; exact d2S (D2.on (Hid.out (by with_reducible assumption)) (Below.drew (Below.refl _ _))))
        | fail)
    (first
      | (go_split_ands; go_at_call 24; ((with_reducible refine (TX.out _ (by with_reducible assumption)).mono ?_); rintro e w' ⟨B1, rfl, hg1, hk1, hb⟩; have HB1 := Lib.hid hk1; clear hk1 hg1))
      | (go_split_ands; go_at_call 24; ((with_reducible refine (TY.out _ (by with_reducible assumption)).mono ?_); rintro e w' ⟨B2, rfl, hg2, hk2, hb⟩; replace HB1 := Lib.hid (HB1.out.step hb); have HB2 := Lib.hid hk2; clear hk2 hg2))
      | (go_split_ands; go_at_call 32; ((with_reducible refine (CS.out _ _ _ _ _ HB1 HB2).mono ?_); rintro e w' ⟨rfl, hb⟩))
      | fail)
  all_goals
    go_split_ands
    have HD : Hid (D2 w f0 a0 len0 cap0 f2 a2 len2 cap2 xs ys _) := (by with_reducible assumption)
    obtain ⟨k0, k1, k2, k3, _⟩ := HD.out.k2
    go_wp2_with fail
    with_reducible refine (TX.out _ HD).mono ?_
    rintro e w4 ⟨B1, rfl, hg1, hk1, hb⟩
    have hbx := box_b w4 (.cells #[.int .i64 f0, .slice (some ⟨B1, 0, none⟩) len0 len0] 26)
    have hp1 : Bx (w4.alloc (.cells #[.int .i64 f0, .slice (some ⟨B1, 0, none⟩) len0 len0] 26)) w4.heap.size [.int .i64 f0, .slice (some ⟨B1, 0, none⟩) len0 len0] := Bx.new w4 _ _
    have HD := Lib.hid ((HD.out.on hb).on hbx)
    have HB1 := Lib.hid (hk1.step hbx)
    obtain ⟨P1, hP1⟩ : ∃ y_, w4.heap.size = y_ := ⟨_, rfl⟩
    rw [hP1] at hp1
    clear hb hbx hk1 hg1 k0 k1 k2 k3
    obtain ⟨k0, k1, k2, k3, _⟩ := HD.out.k2
    go_wp2_with fail
    (try rw [hP1])
    generalize (w4.alloc (.cells #[.int .i64 f0, .slice (some ⟨B1, 0, none⟩) len0 len0] 26)) = v4 at HD HB1 hp1 k0 k1 k2 k3 ⊢
    clear hP1
    with_reducible refine (TY.out _ HD).mono ?_
    rintro e w5 ⟨B2, rfl, hg2, hk2, hb⟩
    have hbx := box_b w5 (.cells #[.int .i64 f2, .slice (some ⟨B2, 0, none⟩) len2 len2] 26)
    have hp2 : Bx (w5.alloc (.cells #[.int .i64 f2, .slice (some ⟨B2, 0, none⟩) len2 len2] 26)) w5.heap.size [.int .i64 f2, .slice (some ⟨B2, 0, none⟩) len2 len2] := Bx.new w5 _ _
    have HE : Hid (E2 w f0 a0 len0 cap0 f2 a2 len2 cap2 xs ys P1 w5.heap.size B1 B2 (w5.alloc (.cells #[.int .i64 f2, .slice (some ⟨B2, 0, none⟩) len2 len2] 26))) := Lib.hid ⟨(HD.out.on hb).on hbx, (hp1.on hb).on hbx, hp2, (HB1.out.step hb).step hbx, hk2.step hbx⟩
    obtain ⟨P2, hP2⟩ : ∃ y_, w5.heap.size = y_ := ⟨_, rfl⟩
    rw [hP2] at HE
    clear hb hbx hk2 hg2 hp1 hp2 HD HB1 k0 k1 k2 k3
    obtain ⟨k0, k1, k2, k3, k4, k5, k6, k7, _⟩ := e2S HE.out
    go_wp2_with fail
    (try rw [hP2])
    generalize (w5.alloc (.cells #[.int .i64 f2, .slice (some ⟨B2, 0, none⟩) len2 len2] 26)) = v5 at HE k0 k1 k2 k3 k4 k5 k6 k7 ⊢
    clear hP2
    with_reducible refine (CI.out _ _ _ (Lib.hid HE.out.b1) (Lib.hid HE.out.b2)).mono ?_
    rintro e w6 ⟨rfl, hb⟩
    have HE := Lib.hid (HE.out.on hb)
    clear hb k0 k1 k2 k3 k4 k5 k6 k7
    have TX2 : Hid (∀ W, Hid (E2 w f0 a0 len0 cap0 f2 a2 len2 cap2 xs ys P1 P2 B1 B2 W) → Calls Try.prog 24 #[.agg #[.int .i64 f0, .slice a0 len0 cap0]] W (ToPost W f0 xs len0)) := Lib.hid (fun W hW => TX.out W (Lib.hid hW.out.d2))
    have TY2 : Hid (∀ W, Hid (E2 w f0 a0 len0 cap0 f2 a2 len2 cap2 xs ys P1 P2 B1 B2 W) → Calls Try.prog 24 #[.agg #[.int .i64 f2, .slice a2 len2 cap2]] W (ToPost W f2 ys len2)) := Lib.hid (fun W hW => TY.out W (Lib.hid hW.out.d2))
    have EX2 : Hid (∀ W b2, Hid (E2 w f0 a0 len0 cap0 f2 a2 len2 cap2 xs ys P1 P2 B1 B2 W) → Hid (Blk W b2 xs) → Calls Try.prog 25 #[.agg #[.int .i64 f0, .slice (some ⟨B1, 0, none⟩) len0 len0], .agg #[.int .i64 f0, .slice (some ⟨b2, 0, none⟩) len0 len0]] W fun e w' => e = .returned (.bool true) ∧ Below W.heap.size W w') := Lib.hid (fun W b2 hW hb => EX.out W B1 b2 (Lib.hid hW.out.b1) hb)
    have EY2 : Hid (∀ W b2, Hid (E2 w f0 a0 len0 cap0 f2 a2 len2 cap2 xs ys P1 P2 B1 B2 W) → Hid (Blk W b2 ys) → Calls Try.prog 25 #[.agg #[.int .i64 f2, .slice (some ⟨B2, 0, none⟩) len2 len2], .agg #[.int .i64 f2, .slice (some ⟨b2, 0, none⟩) len2 len2]] W fun e w' => e = .returned (.bool true) ∧ Below W.heap.size W w') := Lib.hid (fun W b2 hW hb => EY.out W B2 b2 (Lib.hid hW.out.b2) hb)
    go_wp2_with fail
    go_region_held3 (fun w' => w'.cell? ⟨w.heap.size, 0, none⟩ = some (.int .i64 f0) ∧ w'.cell? ⟨w.heap.size, 1, none⟩ = some (.slice a0 len0 cap0) ∧ w'.cell? ⟨w.heap.size + 1, 0, none⟩ = some (.int .i64 f2) ∧ w'.cell? ⟨w.heap.size + 1, 1, none⟩ = some (.slice a2 len2 cap2) ∧ w'.cell? ⟨P1, 0, none⟩ = some (.int .i64 f0) ∧ w'.cell? ⟨P1, 1, none⟩ = some (.slice (some ⟨B1, 0, none⟩) len0 len0) ∧ w'.cell? ⟨P2, 0, none⟩ = some (.int .i64 f2) ∧ w'.cell? ⟨P2, 1, none⟩ = some (.slice (some ⟨B2, 0, none⟩) len2 len2) ∧ Hid (E2 w f0 a0 len0 cap0 f2 a2 len2 cap2 xs ys P1 P2 B1 B2 w')) (first
        | (go_split_ands; exact e2S (Hid.out (by with_reducible assumption)))
        | (go_split_ands; exact e2S (E2.on (Hid.out (by with_reducible assumption)) hb))
        | (go_split_ands; exact e2S (E2.on (Hid.out (by with_reducible assumption)) (Below.drew (Below.refl _ _))))
        | fail)
      (first
        | (go_split_ands; go_at_call 24; ((with_reducible refine (TX2.out _ (by with_reducible assumption)).mono ?_); rintro e w' ⟨B3, rfl, hg3, hk3, hb⟩; have HK3 := Lib.hid hk3; clear hk3 hg3))
        | (go_split_ands; go_at_call 25; ((with_reducible refine (EX2.out _ _ (by with_reducible assumption) HK3).mono ?_); rintro e w' ⟨rfl, hb⟩))
        | fail)
    all_goals
      go_split_ands
      have HE : Hid (E2 w f0 a0 len0 cap0 f2 a2 len2 cap2 xs ys P1 P2 B1 B2 _) := (by with_reducible assumption)
      go_wp2_with fail
      go_region_held3 (fun w' => w'.cell? ⟨w.heap.size, 0, none⟩ = some (.int .i64 f0) ∧ w'.cell? ⟨w.heap.size, 1, none⟩ = some (.slice a0 len0 cap0) ∧ w'.cell? ⟨w.heap.size + 1, 0, none⟩ = some (.int .i64 f2) ∧ w'.cell? ⟨w.heap.size + 1, 1, none⟩ = some (.slice a2 len2 cap2) ∧ w'.cell? ⟨P1, 0, none⟩ = some (.int .i64 f0) ∧ w'.cell? ⟨P1, 1, none⟩ = some (.slice (some ⟨B1, 0, none⟩) len0 len0) ∧ w'.cell? ⟨P2, 0, none⟩ = some (.int .i64 f2) ∧ w'.cell? ⟨P2, 1, none⟩ = some (.slice (some ⟨B2, 0, none⟩) len2 len2) ∧ Hid (E2 w f0 a0 len0 cap0 f2 a2 len2 cap2 xs ys P1 P2 B1 B2 w')) (first
        | (go_split_ands; exact e2S (Hid.out (by with_reducible assumption)))
        | (go_split_ands; exact e2S (E2.on (Hid.out (by with_reducible assumption)) hb))
        | (go_split_ands; exact e2S (E2.on (Hid.out (by with_reducible assumption)) (Below.drew (Below.refl _ _))))
        | fail)
        (first
          | (go_split_ands; go_at_call 24; ((with_reducible refine (TY2.out _ (by with_reducible assumption)).mono ?_); rintro e w' ⟨B4, rfl, hg3, hk3, hb⟩; have HK4 := Lib.hid hk3; clear hk3 hg3))
          | (go_split_ands; go_at_call 25; ((with_reducible refine (EY2.out _ _ (by with_reducible assumption) HK4).mono ?_); rintro e w' ⟨rfl, hb⟩))
          | fail)
      all_goals
        go_split_ands
        have HE : Hid (E2 w f0 a0 len0 cap0 f2 a2 len2 cap2 xs ys P1 P2 B1 B2 _) := (by with_reducible assumption)
        go_wp2_with fail
        go_ret
        exact ⟨rfl, HE.out.d2.k2.low⟩

end Go.Proofs.Ytlcmgihaelgclaa

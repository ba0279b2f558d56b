/- The law on sums: a sum for a price costs at most the price, and a cent more costs more. (Written by wip/gen/asg.py.) -/
import Derived.Test.YtnimmkbpcmgeaaaGreatAsi
import Derived.Test.YtnimmkbpcmgeaaaGreatDrAp
import Derived.Test.YtnimmkbpcmgeaaaGreatUpv
namespace Go.Proofs.YtnimmkbpcmgeaaaGreat
open Go.ChangeShapes Go.WideShapes Go.ChangeAt Go.RowKit
set_option linter.unusedVariables false
set_option maxRecDepth 100000

theorem sum_facts {r f : Int} {xs : List Int} {k x n p : Int} (h : sumE r f xs k x n p = 0) :
    ∃ A : Int, sumV r f xs k x n p = A ∧ 0 ≤ A ∧ A ≤ 1000000000000000000 ∧ (A ≤ 99999999 → ∃ M : Int, priV r f xs k x n (A + 1) = M ∧ asE r f xs k x n (A + 1) = 0 ∧ p < M) ∧ (1 ≤ A → A ≤ 99999999 → ∃ O : Int, priV r f xs k x n A = O ∧ asE r f xs k x n A = 0 ∧ O ≤ p) := by
  have h1 : asE r f xs k x n p = 0 := by
    by_cases h1 : asE r f xs k x n p = 0
    · exact h1
    · unfold sumE at h; rw [if_neg h1] at h; exact absurd h h1
  have eA : sumV r f xs k x n p = p * cD r xs (x - f).toNat / asT r f xs k x n := by unfold sumV; rw [if_pos h]
  have h2 : asT r f xs k x n ≠ 0 ∧ p * cD r xs (x - f).toNat / asT r f xs k x n ≤ 1000000000000000000 := by
    unfold sumE at h
    rw [if_pos h1] at h
    by_cases hz : asT r f xs k x n = 0
    · rw [if_pos hz] at h; cases h
    · rw [if_neg hz] at h
      by_cases hq : p * cD r xs (x - f).toNat / asT r f xs k x n ≤ 1000000000000000000
      · exact ⟨hz, hq⟩
      · rw [if_neg hq] at h; cases h
  obtain ⟨hT, hq⟩ := h2
  obtain ⟨hb, hk, ht, ⟨r0, r1⟩, ⟨x0, x1⟩, ⟨n0, n1⟩, xn, hd⟩ := as_in h1
  obtain ⟨p0, p1⟩ := (inB_iff _ _ _).1 hb
  have hcode : ∀ b : Int, 1 ≤ b → b ≤ 100000000 → asE r f xs k x n b = 0 := fun b g1 g2 => anE_iff.2 ⟨coE_iff.2 ⟨ht, ⟨r0, r1⟩, x0, x1⟩, by rw [(inB_iff _ _ _).2 ⟨g1, g2⟩, fitB_iff.2 hk]; rfl, ⟨n0, n1⟩, xn, hd⟩
  obtain ⟨t0, t1, d1⟩ := ht.top r r0 k x n x0 n0
  have d0 := (ht.cD_bd r r0 (x - f).toNat).1
  obtain ⟨D, hD⟩ : ∃ y_, cD r xs (x - f).toNat = y_ := ⟨_, rfl⟩
  obtain ⟨N, hN⟩ : ∃ y_, asT r f xs k x n = y_ := ⟨_, rfl⟩
  have hlife : ∀ b : Int, 1 ≤ b → b ≤ 100000000 → priV r f xs k x n b = upV b N D := fun b g1 g2 => by unfold priV; rw [if_pos (hcode b g1 g2), hN, hD]
  rw [hD, hN] at eA hq
  rw [hD] at hd d0 d1 t1
  rw [hN] at t0 t1 hT
  have hq1 := Int.mul_ediv_add_emod (p * D) N
  have hr0 := Int.emod_nonneg (p * D) (show N ≠ 0 by omega)
  have hr1 := Int.emod_lt_of_pos (p * D) (show 0 < N by omega)
  have hA0 : 0 ≤ p * D / N := Int.ediv_nonneg (Int.mul_nonneg (by omega) (by omega)) (by omega)
  rw [Int.mul_comm N] at hq1
  obtain ⟨A, hA⟩ : ∃ y_, p * D / N = y_ := ⟨_, rfl⟩
  rw [hA] at eA hq hq1 hA0
  refine ⟨A, eA, hA0, by omega, fun g1 => ⟨_, hlife (A + 1) (by omega) (by omega), hcode _ (by omega) (by omega), ?_⟩, fun g0 g1 => ⟨_, hlife A g0 (by omega), hcode _ g0 (by omega), ?_⟩⟩
  · obtain ⟨c1, _⟩ := upV_ceil (A + 1) N D (by omega)
    rw [Int.add_mul] at c1
    have : p * D < upV (A + 1) N D * D := by omega
    exact Int.lt_of_mul_lt_mul_right this (by omega)
  · obtain ⟨_, c2⟩ := upV_ceil A N D (by omega)
    have : upV A N D * D < (p + 1) * D := by rw [Int.add_mul]; omega
    have := Int.lt_of_mul_lt_mul_right this (by omega)
    omega

/-- a greater divisor makes no greater quotient -/
theorem upV_anti (b t d v : Int) (hb : 0 ≤ b) (ht : 0 ≤ t) (hd : 1 ≤ d) (hv : d ≤ v) : upV b t v ≤ upV b t d := by
  obtain ⟨c1, _⟩ := upV_ceil b t d hd
  obtain ⟨_, c2⟩ := upV_ceil b t v (by omega)
  have h0 : 0 ≤ upV b t d := by
    have := Int.ediv_nonneg (Int.mul_nonneg hb ht) (show 0 ≤ d by omega)
    unfold upV; split <;> omega
  have h1 : upV b t d * d ≤ upV b t d * v := Int.mul_le_mul_of_nonneg_left hv h0
  have h2 : upV b t v * v < (upV b t d + 1) * v := by rw [Int.add_mul]; omega
  have := Int.lt_of_mul_lt_mul_right h2 (by omega)
  omega

/-- what the law asks of a price: its quotient, its rest, the level premium -/
theorem price_facts {r f : Int} {xs : List Int} {k x n b : Int} (h : asE r f xs k x n b = 0) :
    numE r f xs k x n = 0 ∧ ∃ V L N D q z : Int, priV r f xs k x n b = V ∧ levV r f xs k x n b = L ∧ numT r f xs k x n = N ∧ numD r f xs k x n = D ∧ mvE b N D = 0 ∧ mvV b N D = q ∧ mvW b N D = z ∧ 0 ≤ z ∧ (0 ≤ q ∧ q ≤ 1000000000) ∧ (z = 0 → V = q) ∧ (1 ≤ z → V = q + 1) ∧ L ≤ V := by
  obtain ⟨hb, hk, ht, ⟨r0, r1⟩, ⟨x0, x1⟩, ⟨n0, n1⟩, xn, hd⟩ := as_in h
  obtain ⟨b0, b1⟩ := (inB_iff _ _ _).1 hb
  have hE : numE r f xs k x n = 0 := by
    unfold asE at h
    rw [hb] at h
    exact h
  obtain ⟨t, d, v, ht1, hd1, hv1, t0, t1, d0, d1, v0, v1⟩ := as_nums h
  have eV : priV r f xs k x n b = upV b t d := by unfold priV; rw [if_pos h, ht1, hd1]
  have eL : levV r f xs k x n b = upV b t v := by unfold levV; rw [if_pos h, ht1, hv1]
  have eN : numT r f xs k x n = t := by unfold numT; rw [if_pos hE, ht1]
  have eD : numD r f xs k x n = d := by unfold numD; rw [if_pos hE, hd1]
  have hq := quot_le b t d (by omega) t1 (by omega)
  have hin : mvIn b t d = true := (mvIn_iff b t d).2 ⟨⟨by omega, by omega⟩, ⟨by omega, by omega⟩, by omega, by omega⟩
  obtain ⟨g0, g1, g2⟩ := md_in hin (by omega)
  obtain ⟨q, z, e1, e2, z0, z1, u0, u1⟩ := upV_eq b t d (by omega)
  have q0 : 0 ≤ b * t / d := Int.ediv_nonneg (Int.mul_nonneg (by omega) (by omega)) (by omega)
  rw [e1] at g1 hq q0
  rw [e2] at g2
  exact ⟨hE, _, _, _, _, q, z, eV, eL, eN, eD, g0, g1, g2, z0, by omega, u0, fun hz => u1 (by omega), upV_anti b t d v (by omega) t0 (by omega) v0⟩

set_option maxRecDepth 2000000 in
set_option maxHeartbeats 16000000 in
theorem fnSumsFor_walk (a0 : Option Addr) (len0 cap0 : Nat) (z0 : List Int) (w : World) (w0 : IsRow .u8 w a0 len0 cap0 z0) :
    Calls Tryz.prog 3 #[.slice a0 len0 cap0] w fun e w' => e = .returned (.bool true) ∧ Below w.heap.size w w' := by
  by_cases hbig : (4096 : Int) < len0
  · go_enter Tryz.func3, Tryz.ntmps3
    go_wp2_with (go_at_call 4; refine (bigI_any _ _ _ _).mono ?_; rintro e w' ⟨rfl, rfl⟩)
    go_ret
    exact ⟨rfl, Below.refl _ _⟩
  have HRA := Lib.hid w0.apart
  have HR := Lib.hid w0
  clear w0
  go_enter Tryz.func3, Tryz.ntmps3
  go_wp2_with (go_at_call 4; refine (bigI_any _ _ _ _).mono ?_; rintro e w' ⟨rfl, rfl⟩)
  refine (drawSF _ _ _ _ _ HR.out).mono ?_
  rintro e w1 ⟨F, ta, tn, tc, xs, r, k, x, n, p, rfl, hI, htc, htn, -, hb⟩
  have hq := box_b w1 (.cells #[.int .i64 F, .slice ta tn tc] 26)
  have HB : Hid (Below w.heap.size w (w1.alloc (.cells #[.int .i64 F, .slice ta tn tc] 26))) := Lib.hid (hb.trans (hq.mono hb.size))
  have k0 : (w1.alloc (.cells #[.int .i64 F, .slice ta tn tc] 26)).cell? ⟨w1.heap.size, 0, none⟩ = some (.int .i64 F) := by go_simp
  have k1 : (w1.alloc (.cells #[.int .i64 F, .slice ta tn tc] 26)).cell? ⟨w1.heap.size, 1, none⟩ = some (.slice ta tn tc) := by go_simp
  have HI := Lib.hid (hI.on hq)
  clear hb hI hq
  go_wp2_with fail
  obtain ⟨T, hT⟩ : ∃ T, w1.heap.size = T := ⟨_, rfl⟩
  rw [hT] at k0 k1
  (try rw [hT])
  clear hT
  generalize (w1.alloc (.cells #[.int .i64 F, .slice ta tn tc] 26)) = w2 at HB HI k0 k1 ⊢
  refine (isumfor_any r F xs ta tn tc k x n p _ HI.out htc).mono ?_
  rintro e w3 ⟨rfl, hb⟩
  have k0 := keep2 hb k0
  have k1 := keep2 hb k1
  have HB := Lib.hid (HB.out.trans (hb.mono HB.out.size))
  have HI := Lib.hid (HI.out.on hb)
  clear hb
  go_wp2_with fail
  refine (ssumfor_any r F xs ta tn tc k x n p _ HI.out).mono ?_
  rintro e w4 ⟨rfl, hb⟩
  have k0 := keep2 hb k0
  have k1 := keep2 hb k1
  have HB := Lib.hid (HB.out.trans (hb.mono HB.out.size))
  have HI := Lib.hid (HI.out.on hb)
  have HR4 := Lib.hid (HR.out.below HB.out HRA.out)
  clear hb
  go_wp2_with fail
  refine (drawAP _ _ _ _ _ HR4.out).mono ?_
  rintro e w5 ⟨G, ua, un, uc, ys, s, kk, y, m, b, rfl, hJ, huc, hun, -, hb⟩
  have hq := box_b w5 (.cells #[.int .i64 G, .slice ua un uc] 26)
  have hbq := hb.trans (hq.mono hb.size)
  have k0 := keep2 hbq k0
  have k1 := keep2 hbq k1
  have e0 : (w5.alloc (.cells #[.int .i64 G, .slice ua un uc] 26)).cell? ⟨w5.heap.size, 0, none⟩ = some (.int .i64 G) := by go_simp
  have e1 : (w5.alloc (.cells #[.int .i64 G, .slice ua un uc] 26)).cell? ⟨w5.heap.size, 1, none⟩ = some (.slice ua un uc) := by go_simp
  have HF : Hid (FY w T w5.heap.size F ta tn tc xs G ua un uc ys [] (w5.alloc (.cells #[.int .i64 G, .slice ua un uc] 26))) :=
    Lib.hid ⟨HB.out.trans (hbq.mono HB.out.size), k0, k1, e0, e1, HI.out.on hbq, hJ.on hq, fun p hp => by cases hp⟩
  clear hb hJ hq hbq HB HI HR4 HR HRA
  go_wp2_with fail
  obtain ⟨U, hU⟩ : ∃ T, w5.heap.size = T := ⟨_, rfl⟩
  rw [hU] at HF e0 e1
  (try rw [hU])
  clear hU
  generalize (w5.alloc (.cells #[.int .i64 G, .slice ua un uc] 26)) = w6 at HF k0 k1 e0 e1 ⊢
  have PI : Hid (∀ W, Hid (FY w T U F ta tn tc xs G ua un uc ys [] W) → Calls Tryz.prog 9 #[.agg #[.int .i64 G, .slice ua un uc], .int .i64 s, .int .i64 kk, .int .i64 y, .int .i64 m, .int .i64 b] W fun e w' => e = .returned (.tuple #[.int .i64 (priV s G ys kk y m b), .int .i64 (asE s G ys kk y m b)]) ∧ Hid (FY w T U F ta tn tc xs G ua un uc ys [] w')) :=
    Lib.hid (fun W hW => (ipri_any s G ys ua un uc kk y m b W hW.out.i2 huc).mono fun e w' ⟨he, hb⟩ => ⟨he, Lib.hid (hW.out.step hb)⟩)
  have PS : Hid (∀ W, Hid (FY w T U F ta tn tc xs G ua un uc ys [] W) → Calls Tryz.prog 10 #[.agg #[.int .i64 G, .slice ua un uc], .int .i64 s, .int .i64 kk, .int .i64 y, .int .i64 m, .int .i64 b] W fun e w' => e = .returned (.tuple #[.int .i64 (priV s G ys kk y m b), .int .i64 (asE s G ys kk y m b)]) ∧ Hid (FY w T U F ta tn tc xs G ua un uc ys [] w')) :=
    Lib.hid (fun W hW => (spri_any s G ys ua un uc kk y m b W hW.out.i2).mono fun e w' ⟨he, hb⟩ => ⟨he, Lib.hid (hW.out.step hb)⟩)
  have LI : Hid (∀ W, Hid (FY w T U F ta tn tc xs G ua un uc ys [] W) → Calls Tryz.prog 11 #[.agg #[.int .i64 G, .slice ua un uc], .int .i64 s, .int .i64 kk, .int .i64 y, .int .i64 m, .int .i64 b] W fun e w' => e = .returned (.tuple #[.int .i64 (levV s G ys kk y m b), .int .i64 (asE s G ys kk y m b)]) ∧ Hid (FY w T U F ta tn tc xs G ua un uc ys [] w')) :=
    Lib.hid (fun W hW => (ilev_any s G ys ua un uc kk y m b W hW.out.i2 huc).mono fun e w' ⟨he, hb⟩ => ⟨he, Lib.hid (hW.out.step hb)⟩)
  have LS : Hid (∀ W, Hid (FY w T U F ta tn tc xs G ua un uc ys [] W) → Calls Tryz.prog 12 #[.agg #[.int .i64 G, .slice ua un uc], .int .i64 s, .int .i64 kk, .int .i64 y, .int .i64 m, .int .i64 b] W fun e w' => e = .returned (.tuple #[.int .i64 (levV s G ys kk y m b), .int .i64 (asE s G ys kk y m b)]) ∧ Hid (FY w T U F ta tn tc xs G ua un uc ys [] w')) :=
    Lib.hid (fun W hW => (slev_any s G ys ua un uc kk y m b W hW.out.i2).mono fun e w' ⟨he, hb⟩ => ⟨he, Lib.hid (hW.out.step hb)⟩)
  have NI : Hid (∀ W, Hid (FY w T U F ta tn tc xs G ua un uc ys [] W) → Calls Tryz.prog 13 #[.agg #[.int .i64 G, .slice ua un uc], .int .i64 s, .int .i64 kk, .int .i64 y, .int .i64 m] W fun e w' => e = .returned (.tuple #[.int .i64 (numT s G ys kk y m), .int .i64 (numD s G ys kk y m), .int .i64 (numE s G ys kk y m)]) ∧ Hid (FY w T U F ta tn tc xs G ua un uc ys [] w')) :=
    Lib.hid (fun W hW => (inumb_any s G ys ua un uc kk y m W hW.out.i2 huc).mono fun e w' ⟨he, hb⟩ => ⟨he, Lib.hid (hW.out.step hb)⟩)
  have NS : Hid (∀ W, Hid (FY w T U F ta tn tc xs G ua un uc ys [] W) → Calls Tryz.prog 14 #[.agg #[.int .i64 G, .slice ua un uc], .int .i64 s, .int .i64 kk, .int .i64 y, .int .i64 m] W fun e w' => e = .returned (.tuple #[.int .i64 (numT s G ys kk y m), .int .i64 (numD s G ys kk y m), .int .i64 (numE s G ys kk y m)]) ∧ Hid (FY w T U F ta tn tc xs G ua un uc ys [] w')) :=
    Lib.hid (fun W hW => (snum_any s G ys ua un uc kk y m W hW.out.i2).mono fun e w' ⟨he, hb⟩ => ⟨he, Lib.hid (hW.out.step hb)⟩)
  have MD : Hid (∀ a1 a2 a3 W, Hid (FY w T U F ta tn tc xs G ua un uc ys [] W) → Calls Tryz.prog 15 #[.int .i64 a1, .int .i64 a2, .int .i64 a3] W fun e w' => e = .returned (.tuple #[.int .i64 (mvV a1 a2 a3), .int .i64 (mvW a1 a2 a3), .int .i64 (mvE a1 a2 a3)]) ∧ Hid (FY w T U F ta tn tc xs G ua un uc ys [] w')) :=
    Lib.hid (fun a1 a2 a3 W hW => (md_impl a1 a2 a3 W).mono fun e w' ⟨he, hb⟩ => ⟨he, Lib.hid (hW.out.step hb)⟩)
  have WI : Hid (∀ q W, Hid (FY w T U F ta tn tc xs G ua un uc ys [] W) → Calls Tryz.prog 9 #[.agg #[.int .i64 F, .slice ta tn tc], .int .i64 r, .int .i64 k, .int .i64 x, .int .i64 n, .int .i64 q] W fun e w' => e = .returned (.tuple #[.int .i64 (priV r F xs k x n q), .int .i64 (asE r F xs k x n q)]) ∧ Hid (FY w T U F ta tn tc xs G ua un uc ys [] w')) :=
    Lib.hid (fun q W hW => (ipri_any r F xs ta tn tc k x n q W hW.out.i1 htc).mono fun e w' ⟨he, hb⟩ => ⟨he, Lib.hid (hW.out.step hb)⟩)
  have HA := Lib.hid (fun (h : sumE r F xs k x n p = 0) => sum_facts h)
  obtain ⟨E0, hE0⟩ : ∃ y_, sumE r F xs k x n p = y_ := ⟨_, rfl⟩
  obtain ⟨A, hA⟩ : ∃ y_, sumV r F xs k x n p = y_ := ⟨_, rfl⟩
  rw [hE0, hA] at HA ⊢
  clear hE0 hA
  by_cases h1 : asE s G ys kk y m b = 0
  · obtain ⟨hE5, V, L, N, D, q, z, hV, hL, hN, hD, hm0, hm1, hm2, z0, ⟨q0, q1⟩, hz0, hz1, hLV⟩ := price_facts h1
    have MC := Lib.hid (fun W hW => MD.out b N D W hW)
    rw [hm0, hm1, hm2] at MC
    rw [hV, h1] at PI PS
    rw [hL, h1] at LI LS
    rw [hN, hD, hE5] at NI NS
    clear MD hE5 hV hL hN hD hm0 hm1 hm2 h1
    by_cases hz : z = 0
    · subst hz
      have hVq := hz0 rfl
      subst hVq
      have hmz : min (1 : Int) 0 = 0 := by decide
      have hmz2 : V + min 1 0 = V := by rw [hmz]; omega
      clear hz0 hz1
      by_cases hb0 : E0 = 0
      case neg =>
        have hb1 : (E0 != 0) = true := by simp [hb0]
        clear hb0 HA WI
        go_wp2_with (first
            | (go_at_call 9; ((first | (with_reducible refine (PI.out _ HF).mono ?_)); rintro e w' ⟨rfl, HF⟩; have k0 := HF.out.c0; have k1 := HF.out.c1; have e0 := HF.out.d0; have e1 := HF.out.d1))
            | (go_at_call 10; ((first | (with_reducible refine (PS.out _ HF).mono ?_)); rintro e w' ⟨rfl, HF⟩; have k0 := HF.out.c0; have k1 := HF.out.c1; have e0 := HF.out.d0; have e1 := HF.out.d1))
            | (go_at_call 11; ((first | (with_reducible refine (LI.out _ HF).mono ?_)); rintro e w' ⟨rfl, HF⟩; have k0 := HF.out.c0; have k1 := HF.out.c1; have e0 := HF.out.d0; have e1 := HF.out.d1))
            | (go_at_call 12; ((first | (with_reducible refine (LS.out _ HF).mono ?_)); rintro e w' ⟨rfl, HF⟩; have k0 := HF.out.c0; have k1 := HF.out.c1; have e0 := HF.out.d0; have e1 := HF.out.d1))
            | (go_at_call 13; ((first | (with_reducible refine (NI.out _ HF).mono ?_)); rintro e w' ⟨rfl, HF⟩; have k0 := HF.out.c0; have k1 := HF.out.c1; have e0 := HF.out.d0; have e1 := HF.out.d1))
            | (go_at_call 14; ((first | (with_reducible refine (NS.out _ HF).mono ?_)); rintro e w' ⟨rfl, HF⟩; have k0 := HF.out.c0; have k1 := HF.out.c1; have e0 := HF.out.d0; have e1 := HF.out.d1))
            | (go_at_call 15; ((with_reducible refine (MC.out _ HF).mono ?_); rintro e w' ⟨rfl, HF⟩; have k0 := HF.out.c0; have k1 := HF.out.c1; have e0 := HF.out.d0; have e1 := HF.out.d1)))
        go_ret
        exact ⟨rfl, HF.out.low⟩
      subst hb0
      obtain ⟨A', hA', A0, A1, hmore, hown⟩ := HA.out rfl
      subst hA'
      by_cases hc : 99999999 < A
      · clear HA WI hmore hown
        go_wp2_with (first
            | (go_at_call 9; ((first | (with_reducible refine (PI.out _ HF).mono ?_)); rintro e w' ⟨rfl, HF⟩; have k0 := HF.out.c0; have k1 := HF.out.c1; have e0 := HF.out.d0; have e1 := HF.out.d1))
            | (go_at_call 10; ((first | (with_reducible refine (PS.out _ HF).mono ?_)); rintro e w' ⟨rfl, HF⟩; have k0 := HF.out.c0; have k1 := HF.out.c1; have e0 := HF.out.d0; have e1 := HF.out.d1))
            | (go_at_call 11; ((first | (with_reducible refine (LI.out _ HF).mono ?_)); rintro e w' ⟨rfl, HF⟩; have k0 := HF.out.c0; have k1 := HF.out.c1; have e0 := HF.out.d0; have e1 := HF.out.d1))
            | (go_at_call 12; ((first | (with_reducible refine (LS.out _ HF).mono ?_)); rintro e w' ⟨rfl, HF⟩; have k0 := HF.out.c0; have k1 := HF.out.c1; have e0 := HF.out.d0; have e1 := HF.out.d1))
            | (go_at_call 13; ((first | (with_reducible refine (NI.out _ HF).mono ?_)); rintro e w' ⟨rfl, HF⟩; have k0 := HF.out.c0; have k1 := HF.out.c1; have e0 := HF.out.d0; have e1 := HF.out.d1))
            | (go_at_call 14; ((first | (with_reducible refine (NS.out _ HF).mono ?_)); rintro e w' ⟨rfl, HF⟩; have k0 := HF.out.c0; have k1 := HF.out.c1; have e0 := HF.out.d0; have e1 := HF.out.d1))
            | (go_at_call 15; ((with_reducible refine (MC.out _ HF).mono ?_); rintro e w' ⟨rfl, HF⟩; have k0 := HF.out.c0; have k1 := HF.out.c1; have e0 := HF.out.d0; have e1 := HF.out.d1)))
        go_ret
        exact ⟨rfl, HF.out.low⟩
      obtain ⟨M, hM, hM0, hM1⟩ := hmore (by omega)
      have WM : Hid (∀ W, Hid (FY w T U F ta tn tc xs G ua un uc ys [] W) → Calls Tryz.prog 9 #[.agg #[.int .i64 F, .slice ta tn tc], .int .i64 r, .int .i64 k, .int .i64 x, .int .i64 n, .int .i64 (A + 1)] W fun e w' => e = .returned (.tuple #[.int .i64 M, .int .i64 0]) ∧ Hid (FY w T U F ta tn tc xs G ua un uc ys [] w')) := Lib.hid (fun W hW => by
        have := WI.out (A + 1) W hW
        rw [hM, hM0] at this
        exact this)
      by_cases ha : A = 0
      · have ha2 : (A == 0) = true := by simp [ha]
        clear HA WI hown hM hM0 ha
        go_wp2_with (first
            | (go_at_call 9; ((first | (with_reducible refine (PI.out _ HF).mono ?_) | (with_reducible refine (WM.out _ HF).mono ?_)); rintro e w' ⟨rfl, HF⟩; have k0 := HF.out.c0; have k1 := HF.out.c1; have e0 := HF.out.d0; have e1 := HF.out.d1))
            | (go_at_call 10; ((first | (with_reducible refine (PS.out _ HF).mono ?_)); rintro e w' ⟨rfl, HF⟩; have k0 := HF.out.c0; have k1 := HF.out.c1; have e0 := HF.out.d0; have e1 := HF.out.d1))
            | (go_at_call 11; ((first | (with_reducible refine (LI.out _ HF).mono ?_)); rintro e w' ⟨rfl, HF⟩; have k0 := HF.out.c0; have k1 := HF.out.c1; have e0 := HF.out.d0; have e1 := HF.out.d1))
            | (go_at_call 12; ((first | (with_reducible refine (LS.out _ HF).mono ?_)); rintro e w' ⟨rfl, HF⟩; have k0 := HF.out.c0; have k1 := HF.out.c1; have e0 := HF.out.d0; have e1 := HF.out.d1))
            | (go_at_call 13; ((first | (with_reducible refine (NI.out _ HF).mono ?_)); rintro e w' ⟨rfl, HF⟩; have k0 := HF.out.c0; have k1 := HF.out.c1; have e0 := HF.out.d0; have e1 := HF.out.d1))
            | (go_at_call 14; ((first | (with_reducible refine (NS.out _ HF).mono ?_)); rintro e w' ⟨rfl, HF⟩; have k0 := HF.out.c0; have k1 := HF.out.c1; have e0 := HF.out.d0; have e1 := HF.out.d1))
            | (go_at_call 15; ((with_reducible refine (MC.out _ HF).mono ?_); rintro e w' ⟨rfl, HF⟩; have k0 := HF.out.c0; have k1 := HF.out.c1; have e0 := HF.out.d0; have e1 := HF.out.d1)))
        go_ret
        exact ⟨rfl, HF.out.low⟩
      · have ha2 : (A == 0) = false := by simp [ha]
        obtain ⟨O, hO, hO0, hO1⟩ := hown (by omega) (by omega)
        have WO : Hid (∀ W, Hid (FY w T U F ta tn tc xs G ua un uc ys [] W) → Calls Tryz.prog 9 #[.agg #[.int .i64 F, .slice ta tn tc], .int .i64 r, .int .i64 k, .int .i64 x, .int .i64 n, .int .i64 A] W fun e w' => e = .returned (.tuple #[.int .i64 O, .int .i64 0]) ∧ Hid (FY w T U F ta tn tc xs G ua un uc ys [] w')) := Lib.hid (fun W hW => by
          have := WI.out A W hW
          rw [hO, hO0] at this
          exact this)
        clear HA WI hM hM0 ha hO hO0
        go_wp2_with (first
            | (go_at_call 9; ((first | (with_reducible refine (PI.out _ HF).mono ?_) | (with_reducible refine (WM.out _ HF).mono ?_) | (with_reducible refine (WO.out _ HF).mono ?_)); rintro e w' ⟨rfl, HF⟩; have k0 := HF.out.c0; have k1 := HF.out.c1; have e0 := HF.out.d0; have e1 := HF.out.d1))
            | (go_at_call 10; ((first | (with_reducible refine (PS.out _ HF).mono ?_)); rintro e w' ⟨rfl, HF⟩; have k0 := HF.out.c0; have k1 := HF.out.c1; have e0 := HF.out.d0; have e1 := HF.out.d1))
            | (go_at_call 11; ((first | (with_reducible refine (LI.out _ HF).mono ?_)); rintro e w' ⟨rfl, HF⟩; have k0 := HF.out.c0; have k1 := HF.out.c1; have e0 := HF.out.d0; have e1 := HF.out.d1))
            | (go_at_call 12; ((first | (with_reducible refine (LS.out _ HF).mono ?_)); rintro e w' ⟨rfl, HF⟩; have k0 := HF.out.c0; have k1 := HF.out.c1; have e0 := HF.out.d0; have e1 := HF.out.d1))
            | (go_at_call 13; ((first | (with_reducible refine (NI.out _ HF).mono ?_)); rintro e w' ⟨rfl, HF⟩; have k0 := HF.out.c0; have k1 := HF.out.c1; have e0 := HF.out.d0; have e1 := HF.out.d1))
            | (go_at_call 14; ((first | (with_reducible refine (NS.out _ HF).mono ?_)); rintro e w' ⟨rfl, HF⟩; have k0 := HF.out.c0; have k1 := HF.out.c1; have e0 := HF.out.d0; have e1 := HF.out.d1))
            | (go_at_call 15; ((with_reducible refine (MC.out _ HF).mono ?_); rintro e w' ⟨rfl, HF⟩; have k0 := HF.out.c0; have k1 := HF.out.c1; have e0 := HF.out.d0; have e1 := HF.out.d1)))
        go_ret
        exact ⟨rfl, HF.out.low⟩
    · have hz3 : 1 ≤ z := by omega
      have hVq := hz1 hz3
      subst hVq
      clear hz0 hz1
      have qq : IntKind.i64.wrap (q + 1) = q + 1 := IntWalk.i64_in _ (by omega)
      have hmz : min 1 z = 1 := by omega
      by_cases hb0 : E0 = 0
      case neg =>
        have hb1 : (E0 != 0) = true := by simp [hb0]
        clear hb0 HA WI
        go_wp2_with (first
            | (go_at_call 9; ((first | (with_reducible refine (PI.out _ HF).mono ?_)); rintro e w' ⟨rfl, HF⟩; have k0 := HF.out.c0; have k1 := HF.out.c1; have e0 := HF.out.d0; have e1 := HF.out.d1))
            | (go_at_call 10; ((first | (with_reducible refine (PS.out _ HF).mono ?_)); rintro e w' ⟨rfl, HF⟩; have k0 := HF.out.c0; have k1 := HF.out.c1; have e0 := HF.out.d0; have e1 := HF.out.d1))
            | (go_at_call 11; ((first | (with_reducible refine (LI.out _ HF).mono ?_)); rintro e w' ⟨rfl, HF⟩; have k0 := HF.out.c0; have k1 := HF.out.c1; have e0 := HF.out.d0; have e1 := HF.out.d1))
            | (go_at_call 12; ((first | (with_reducible refine (LS.out _ HF).mono ?_)); rintro e w' ⟨rfl, HF⟩; have k0 := HF.out.c0; have k1 := HF.out.c1; have e0 := HF.out.d0; have e1 := HF.out.d1))
            | (go_at_call 13; ((first | (with_reducible refine (NI.out _ HF).mono ?_)); rintro e w' ⟨rfl, HF⟩; have k0 := HF.out.c0; have k1 := HF.out.c1; have e0 := HF.out.d0; have e1 := HF.out.d1))
            | (go_at_call 14; ((first | (with_reducible refine (NS.out _ HF).mono ?_)); rintro e w' ⟨rfl, HF⟩; have k0 := HF.out.c0; have k1 := HF.out.c1; have e0 := HF.out.d0; have e1 := HF.out.d1))
            | (go_at_call 15; ((with_reducible refine (MC.out _ HF).mono ?_); rintro e w' ⟨rfl, HF⟩; have k0 := HF.out.c0; have k1 := HF.out.c1; have e0 := HF.out.d0; have e1 := HF.out.d1)))
        go_ret
        exact ⟨rfl, HF.out.low⟩
      subst hb0
      obtain ⟨A', hA', A0, A1, hmore, hown⟩ := HA.out rfl
      subst hA'
      by_cases hc : 99999999 < A
      · clear HA WI hmore hown
        go_wp2_with (first
            | (go_at_call 9; ((first | (with_reducible refine (PI.out _ HF).mono ?_)); rintro e w' ⟨rfl, HF⟩; have k0 := HF.out.c0; have k1 := HF.out.c1; have e0 := HF.out.d0; have e1 := HF.out.d1))
            | (go_at_call 10; ((first | (with_reducible refine (PS.out _ HF).mono ?_)); rintro e w' ⟨rfl, HF⟩; have k0 := HF.out.c0; have k1 := HF.out.c1; have e0 := HF.out.d0; have e1 := HF.out.d1))
            | (go_at_call 11; ((first | (with_reducible refine (LI.out _ HF).mono ?_)); rintro e w' ⟨rfl, HF⟩; have k0 := HF.out.c0; have k1 := HF.out.c1; have e0 := HF.out.d0; have e1 := HF.out.d1))
            | (go_at_call 12; ((first | (with_reducible refine (LS.out _ HF).mono ?_)); rintro e w' ⟨rfl, HF⟩; have k0 := HF.out.c0; have k1 := HF.out.c1; have e0 := HF.out.d0; have e1 := HF.out.d1))
            | (go_at_call 13; ((first | (with_reducible refine (NI.out _ HF).mono ?_)); rintro e w' ⟨rfl, HF⟩; have k0 := HF.out.c0; have k1 := HF.out.c1; have e0 := HF.out.d0; have e1 := HF.out.d1))
            | (go_at_call 14; ((first | (with_reducible refine (NS.out _ HF).mono ?_)); rintro e w' ⟨rfl, HF⟩; have k0 := HF.out.c0; have k1 := HF.out.c1; have e0 := HF.out.d0; have e1 := HF.out.d1))
            | (go_at_call 15; ((with_reducible refine (MC.out _ HF).mono ?_); rintro e w' ⟨rfl, HF⟩; have k0 := HF.out.c0; have k1 := HF.out.c1; have e0 := HF.out.d0; have e1 := HF.out.d1)))
        go_ret
        exact ⟨rfl, HF.out.low⟩
      obtain ⟨M, hM, hM0, hM1⟩ := hmore (by omega)
      have WM : Hid (∀ W, Hid (FY w T U F ta tn tc xs G ua un uc ys [] W) → Calls Tryz.prog 9 #[.agg #[.int .i64 F, .slice ta tn tc], .int .i64 r, .int .i64 k, .int .i64 x, .int .i64 n, .int .i64 (A + 1)] W fun e w' => e = .returned (.tuple #[.int .i64 M, .int .i64 0]) ∧ Hid (FY w T U F ta tn tc xs G ua un uc ys [] w')) := Lib.hid (fun W hW => by
        have := WI.out (A + 1) W hW
        rw [hM, hM0] at this
        exact this)
      by_cases ha : A = 0
      · have ha2 : (A == 0) = true := by simp [ha]
        clear HA WI hown hM hM0 ha
        go_wp2_with (first
            | (go_at_call 9; ((first | (with_reducible refine (PI.out _ HF).mono ?_) | (with_reducible refine (WM.out _ HF).mono ?_)); rintro e w' ⟨rfl, HF⟩; have k0 := HF.out.c0; have k1 := HF.out.c1; have e0 := HF.out.d0; have e1 := HF.out.d1))
            | (go_at_call 10; ((first | (with_reducible refine (PS.out _ HF).mono ?_)); rintro e w' ⟨rfl, HF⟩; have k0 := HF.out.c0; have k1 := HF.out.c1; have e0 := HF.out.d0; have e1 := HF.out.d1))
            | (go_at_call 11; ((first | (with_reducible refine (LI.out _ HF).mono ?_)); rintro e w' ⟨rfl, HF⟩; have k0 := HF.out.c0; have k1 := HF.out.c1; have e0 := HF.out.d0; have e1 := HF.out.d1))
            | (go_at_call 12; ((first | (with_reducible refine (LS.out _ HF).mono ?_)); rintro e w' ⟨rfl, HF⟩; have k0 := HF.out.c0; have k1 := HF.out.c1; have e0 := HF.out.d0; have e1 := HF.out.d1))
            | (go_at_call 13; ((first | (with_reducible refine (NI.out _ HF).mono ?_)); rintro e w' ⟨rfl, HF⟩; have k0 := HF.out.c0; have k1 := HF.out.c1; have e0 := HF.out.d0; have e1 := HF.out.d1))
            | (go_at_call 14; ((first | (with_reducible refine (NS.out _ HF).mono ?_)); rintro e w' ⟨rfl, HF⟩; have k0 := HF.out.c0; have k1 := HF.out.c1; have e0 := HF.out.d0; have e1 := HF.out.d1))
            | (go_at_call 15; ((with_reducible refine (MC.out _ HF).mono ?_); rintro e w' ⟨rfl, HF⟩; have k0 := HF.out.c0; have k1 := HF.out.c1; have e0 := HF.out.d0; have e1 := HF.out.d1)))
        go_ret
        exact ⟨rfl, HF.out.low⟩
      · have ha2 : (A == 0) = false := by simp [ha]
        obtain ⟨O, hO, hO0, hO1⟩ := hown (by omega) (by omega)
        have WO : Hid (∀ W, Hid (FY w T U F ta tn tc xs G ua un uc ys [] W) → Calls Tryz.prog 9 #[.agg #[.int .i64 F, .slice ta tn tc], .int .i64 r, .int .i64 k, .int .i64 x, .int .i64 n, .int .i64 A] W fun e w' => e = .returned (.tuple #[.int .i64 O, .int .i64 0]) ∧ Hid (FY w T U F ta tn tc xs G ua un uc ys [] w')) := Lib.hid (fun W hW => by
          have := WI.out A W hW
          rw [hO, hO0] at this
          exact this)
        clear HA WI hM hM0 ha hO hO0
        go_wp2_with (first
            | (go_at_call 9; ((first | (with_reducible refine (PI.out _ HF).mono ?_) | (with_reducible refine (WM.out _ HF).mono ?_) | (with_reducible refine (WO.out _ HF).mono ?_)); rintro e w' ⟨rfl, HF⟩; have k0 := HF.out.c0; have k1 := HF.out.c1; have e0 := HF.out.d0; have e1 := HF.out.d1))
            | (go_at_call 10; ((first | (with_reducible refine (PS.out _ HF).mono ?_)); rintro e w' ⟨rfl, HF⟩; have k0 := HF.out.c0; have k1 := HF.out.c1; have e0 := HF.out.d0; have e1 := HF.out.d1))
            | (go_at_call 11; ((first | (with_reducible refine (LI.out _ HF).mono ?_)); rintro e w' ⟨rfl, HF⟩; have k0 := HF.out.c0; have k1 := HF.out.c1; have e0 := HF.out.d0; have e1 := HF.out.d1))
            | (go_at_call 12; ((first | (with_reducible refine (LS.out _ HF).mono ?_)); rintro e w' ⟨rfl, HF⟩; have k0 := HF.out.c0; have k1 := HF.out.c1; have e0 := HF.out.d0; have e1 := HF.out.d1))
            | (go_at_call 13; ((first | (with_reducible refine (NI.out _ HF).mono ?_)); rintro e w' ⟨rfl, HF⟩; have k0 := HF.out.c0; have k1 := HF.out.c1; have e0 := HF.out.d0; have e1 := HF.out.d1))
            | (go_at_call 14; ((first | (with_reducible refine (NS.out _ HF).mono ?_)); rintro e w' ⟨rfl, HF⟩; have k0 := HF.out.c0; have k1 := HF.out.c1; have e0 := HF.out.d0; have e1 := HF.out.d1))
            | (go_at_call 15; ((with_reducible refine (MC.out _ HF).mono ?_); rintro e w' ⟨rfl, HF⟩; have k0 := HF.out.c0; have k1 := HF.out.c1; have e0 := HF.out.d0; have e1 := HF.out.d1)))
        go_ret
        exact ⟨rfl, HF.out.low⟩
  · obtain ⟨V, hV⟩ : ∃ y_, priV s G ys kk y m b = y_ := ⟨_, rfl⟩
    obtain ⟨L, hL⟩ : ∃ y_, levV s G ys kk y m b = y_ := ⟨_, rfl⟩
    obtain ⟨N, hN⟩ : ∃ y_, numT s G ys kk y m = y_ := ⟨_, rfl⟩
    obtain ⟨D, hD⟩ : ∃ y_, numD s G ys kk y m = y_ := ⟨_, rfl⟩
    obtain ⟨E1, hE1⟩ : ∃ y_, asE s G ys kk y m b = y_ := ⟨_, rfl⟩
    obtain ⟨E5, hE5⟩ : ∃ y_, numE s G ys kk y m = y_ := ⟨_, rfl⟩
    rw [hV, hE1] at PI PS
    rw [hL, hE1] at LI LS
    rw [hN, hD, hE5] at NI NS
    rw [hE1] at h1
    have h2 : (E1 == 0) = false := by simp [h1]
    clear MD hV hL hN hD hE1 hE5 h1
    by_cases hb0 : E0 = 0
    case neg =>
      have hb1 : (E0 != 0) = true := by simp [hb0]
      clear hb0 HA WI
      go_wp2_with (first
          | (go_at_call 9; ((first | (with_reducible refine (PI.out _ HF).mono ?_)); rintro e w' ⟨rfl, HF⟩; have k0 := HF.out.c0; have k1 := HF.out.c1; have e0 := HF.out.d0; have e1 := HF.out.d1))
          | (go_at_call 10; ((first | (with_reducible refine (PS.out _ HF).mono ?_)); rintro e w' ⟨rfl, HF⟩; have k0 := HF.out.c0; have k1 := HF.out.c1; have e0 := HF.out.d0; have e1 := HF.out.d1))
          | (go_at_call 11; ((first | (with_reducible refine (LI.out _ HF).mono ?_)); rintro e w' ⟨rfl, HF⟩; have k0 := HF.out.c0; have k1 := HF.out.c1; have e0 := HF.out.d0; have e1 := HF.out.d1))
          | (go_at_call 12; ((first | (with_reducible refine (LS.out _ HF).mono ?_)); rintro e w' ⟨rfl, HF⟩; have k0 := HF.out.c0; have k1 := HF.out.c1; have e0 := HF.out.d0; have e1 := HF.out.d1))
          | (go_at_call 13; ((first | (with_reducible refine (NI.out _ HF).mono ?_)); rintro e w' ⟨rfl, HF⟩; have k0 := HF.out.c0; have k1 := HF.out.c1; have e0 := HF.out.d0; have e1 := HF.out.d1))
          | (go_at_call 14; ((first | (with_reducible refine (NS.out _ HF).mono ?_)); rintro e w' ⟨rfl, HF⟩; have k0 := HF.out.c0; have k1 := HF.out.c1; have e0 := HF.out.d0; have e1 := HF.out.d1)))
      go_ret
      exact ⟨rfl, HF.out.low⟩
    subst hb0
    obtain ⟨A', hA', A0, A1, hmore, hown⟩ := HA.out rfl
    subst hA'
    by_cases hc : 99999999 < A
    · clear HA WI hmore hown
      go_wp2_with (first
          | (go_at_call 9; ((first | (with_reducible refine (PI.out _ HF).mono ?_)); rintro e w' ⟨rfl, HF⟩; have k0 := HF.out.c0; have k1 := HF.out.c1; have e0 := HF.out.d0; have e1 := HF.out.d1))
          | (go_at_call 10; ((first | (with_reducible refine (PS.out _ HF).mono ?_)); rintro e w' ⟨rfl, HF⟩; have k0 := HF.out.c0; have k1 := HF.out.c1; have e0 := HF.out.d0; have e1 := HF.out.d1))
          | (go_at_call 11; ((first | (with_reducible refine (LI.out _ HF).mono ?_)); rintro e w' ⟨rfl, HF⟩; have k0 := HF.out.c0; have k1 := HF.out.c1; have e0 := HF.out.d0; have e1 := HF.out.d1))
          | (go_at_call 12; ((first | (with_reducible refine (LS.out _ HF).mono ?_)); rintro e w' ⟨rfl, HF⟩; have k0 := HF.out.c0; have k1 := HF.out.c1; have e0 := HF.out.d0; have e1 := HF.out.d1))
          | (go_at_call 13; ((first | (with_reducible refine (NI.out _ HF).mono ?_)); rintro e w' ⟨rfl, HF⟩; have k0 := HF.out.c0; have k1 := HF.out.c1; have e0 := HF.out.d0; have e1 := HF.out.d1))
          | (go_at_call 14; ((first | (with_reducible refine (NS.out _ HF).mono ?_)); rintro e w' ⟨rfl, HF⟩; have k0 := HF.out.c0; have k1 := HF.out.c1; have e0 := HF.out.d0; have e1 := HF.out.d1)))
      go_ret
      exact ⟨rfl, HF.out.low⟩
    obtain ⟨M, hM, hM0, hM1⟩ := hmore (by omega)
    have WM : Hid (∀ W, Hid (FY w T U F ta tn tc xs G ua un uc ys [] W) → Calls Tryz.prog 9 #[.agg #[.int .i64 F, .slice ta tn tc], .int .i64 r, .int .i64 k, .int .i64 x, .int .i64 n, .int .i64 (A + 1)] W fun e w' => e = .returned (.tuple #[.int .i64 M, .int .i64 0]) ∧ Hid (FY w T U F ta tn tc xs G ua un uc ys [] w')) := Lib.hid (fun W hW => by
      have := WI.out (A + 1) W hW
      rw [hM, hM0] at this
      exact this)
    by_cases ha : A = 0
    · have ha2 : (A == 0) = true := by simp [ha]
      clear HA WI hown hM hM0 ha
      go_wp2_with (first
          | (go_at_call 9; ((first | (with_reducible refine (PI.out _ HF).mono ?_) | (with_reducible refine (WM.out _ HF).mono ?_)); rintro e w' ⟨rfl, HF⟩; have k0 := HF.out.c0; have k1 := HF.out.c1; have e0 := HF.out.d0; have e1 := HF.out.d1))
          | (go_at_call 10; ((first | (with_reducible refine (PS.out _ HF).mono ?_)); rintro e w' ⟨rfl, HF⟩; have k0 := HF.out.c0; have k1 := HF.out.c1; have e0 := HF.out.d0; have e1 := HF.out.d1))
          | (go_at_call 11; ((first | (with_reducible refine (LI.out _ HF).mono ?_)); rintro e w' ⟨rfl, HF⟩; have k0 := HF.out.c0; have k1 := HF.out.c1; have e0 := HF.out.d0; have e1 := HF.out.d1))
          | (go_at_call 12; ((first | (with_reducible refine (LS.out _ HF).mono ?_)); rintro e w' ⟨rfl, HF⟩; have k0 := HF.out.c0; have k1 := HF.out.c1; have e0 := HF.out.d0; have e1 := HF.out.d1))
          | (go_at_call 13; ((first | (with_reducible refine (NI.out _ HF).mono ?_)); rintro e w' ⟨rfl, HF⟩; have k0 := HF.out.c0; have k1 := HF.out.c1; have e0 := HF.out.d0; have e1 := HF.out.d1))
          | (go_at_call 14; ((first | (with_reducible refine (NS.out _ HF).mono ?_)); rintro e w' ⟨rfl, HF⟩; have k0 := HF.out.c0; have k1 := HF.out.c1; have e0 := HF.out.d0; have e1 := HF.out.d1)))
      go_ret
      exact ⟨rfl, HF.out.low⟩
    · have ha2 : (A == 0) = false := by simp [ha]
      obtain ⟨O, hO, hO0, hO1⟩ := hown (by omega) (by omega)
      have WO : Hid (∀ W, Hid (FY w T U F ta tn tc xs G ua un uc ys [] W) → Calls Tryz.prog 9 #[.agg #[.int .i64 F, .slice ta tn tc], .int .i64 r, .int .i64 k, .int .i64 x, .int .i64 n, .int .i64 A] W fun e w' => e = .returned (.tuple #[.int .i64 O, .int .i64 0]) ∧ Hid (FY w T U F ta tn tc xs G ua un uc ys [] w')) := Lib.hid (fun W hW => by
        have := WI.out A W hW
        rw [hO, hO0] at this
        exact this)
      clear HA WI hM hM0 ha hO hO0
      go_wp2_with (first
          | (go_at_call 9; ((first | (with_reducible refine (PI.out _ HF).mono ?_) | (with_reducible refine (WM.out _ HF).mono ?_) | (with_reducible refine (WO.out _ HF).mono ?_)); rintro e w' ⟨rfl, HF⟩; have k0 := HF.out.c0; have k1 := HF.out.c1; have e0 := HF.out.d0; have e1 := HF.out.d1))
          | (go_at_call 10; ((first | (with_reducible refine (PS.out _ HF).mono ?_)); rintro e w' ⟨rfl, HF⟩; have k0 := HF.out.c0; have k1 := HF.out.c1; have e0 := HF.out.d0; have e1 := HF.out.d1))
          | (go_at_call 11; ((first | (with_reducible refine (LI.out _ HF).mono ?_)); rintro e w' ⟨rfl, HF⟩; have k0 := HF.out.c0; have k1 := HF.out.c1; have e0 := HF.out.d0; have e1 := HF.out.d1))
          | (go_at_call 12; ((first | (with_reducible refine (LS.out _ HF).mono ?_)); rintro e w' ⟨rfl, HF⟩; have k0 := HF.out.c0; have k1 := HF.out.c1; have e0 := HF.out.d0; have e1 := HF.out.d1))
          | (go_at_call 13; ((first | (with_reducible refine (NI.out _ HF).mono ?_)); rintro e w' ⟨rfl, HF⟩; have k0 := HF.out.c0; have k1 := HF.out.c1; have e0 := HF.out.d0; have e1 := HF.out.d1))
          | (go_at_call 14; ((first | (with_reducible refine (NS.out _ HF).mono ?_)); rintro e w' ⟨rfl, HF⟩; have k0 := HF.out.c0; have k1 := HF.out.c1; have e0 := HF.out.d0; have e1 := HF.out.d1)))
      go_ret
      exact ⟨rfl, HF.out.low⟩
end Go.Proofs.YtnimmkbpcmgeaaaGreat

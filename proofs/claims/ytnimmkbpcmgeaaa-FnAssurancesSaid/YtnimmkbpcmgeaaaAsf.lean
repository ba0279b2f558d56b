/- The law on assurances: an endowment costs what its parts cost, but for a cent; natural premiums are prices for one year. (Written by wip/gen/asf.py.) -/
import Derived.Test.YtnimmkbpcmgeaaaAso
import Derived.Test.YtnimmkbpcmgeaaaDrAt
import Derived.Test.YtnimmkbpcmgeaaaLsum
import Derived.Test.YtnimmkbpcmgeaaaUpv
namespace Go.Proofs.Ytnimmkbpcmgeaaa
open Go.ChangeShapes Go.WideShapes Go.ChangeAt Go.RowKit
set_option linter.unusedVariables false
set_option maxRecDepth 100000

theorem part_facts {r f : Int} {xs : List Int} {x n b : Int} (h : asE r f xs 1 x n b = 0) :
    ∃ A B V : Int, priV r f xs 1 x n b = A ∧ priV r f xs 3 x n b = B ∧ priV r f xs 2 x n b = V ∧ asE r f xs 2 x n b = 0 ∧ (0 ≤ A ∧ A ≤ 1000000000) ∧ (0 ≤ B ∧ B ≤ 1000000000) ∧ (0 ≤ V ∧ V ≤ 1000000000) ∧ 0 ≤ A + B - V ∧ A + B - V ≤ 1 := by
  have h2 : asE r f xs 2 x n b = 0 := h
  have h3 : asE r f xs 3 x n b = 0 := h
  obtain ⟨hb, -, ht, ⟨r0, r1⟩, ⟨x0, x1⟩, ⟨n0, n1⟩, xn, hd⟩ := as_in h
  obtain ⟨b0, b1⟩ := (inB_iff _ _ _).1 hb
  obtain ⟨t0, t1, d1⟩ := ht.top r r0 1 x n x0 n0
  obtain ⟨s0, s1, -⟩ := ht.top r r0 3 x n x0 n0
  obtain ⟨e0, e1, -⟩ := ht.top r r0 2 x n x0 n0
  have d0 := (ht.cD_bd r r0 (x - f).toNat).1
  have hp := up_parts b (asT r f xs 1 x n) (asT r f xs 3 x n) (cD r xs (x - f).toNat) (by omega)
  have ha := upV_bd b _ _ b (by omega) t0 (show 1 ≤ cD r xs (x - f).toNat by omega) (quot_le b _ _ (by omega) t1 (by omega))
  have hbb := upV_bd b _ _ b (by omega) s0 (show 1 ≤ cD r xs (x - f).toNat by omega) (quot_le b _ _ (by omega) s1 (by omega))
  have hv := upV_bd b _ _ b (by omega) e0 (show 1 ≤ cD r xs (x - f).toNat by omega) (quot_le b _ _ (by omega) e1 (by omega))
  rw [show asT r f xs 1 x n + asT r f xs 3 x n = asT r f xs 2 x n from rfl] at hp
  have eA : priV r f xs 1 x n b = upV b (asT r f xs 1 x n) (cD r xs (x - f).toNat) := by unfold priV; rw [if_pos h]
  have eB : priV r f xs 3 x n b = upV b (asT r f xs 3 x n) (cD r xs (x - f).toNat) := by unfold priV; rw [if_pos h3]
  have eV : priV r f xs 2 x n b = upV b (asT r f xs 2 x n) (cD r xs (x - f).toNat) := by unfold priV; rw [if_pos h2]
  exact ⟨_, _, _, eA, eB, eV, h2, by omega, by omega, by omega, hp.1, hp.2⟩

theorem nat_facts {r f : Int} {xs : List Int} {x n b : Int} (h : npE r f xs x n b = 0) :
    (0 ≤ x ∧ x ≤ 150) ∧ (npY r f xs x n b).length ≤ 120 ∧ ∀ j : Nat, j < (npY r f xs x n b).length → asE r f xs 1 (x + j) 1 b = 0 ∧ priV r f xs 1 (x + j) 1 b = (npY r f xs x n b).getD j 0 := by
  have h1 : asE r f xs 1 x n b = 0 := by
    by_cases h1 : asE r f xs 1 x n b = 0
    · exact h1
    · unfold npE at h; rw [if_neg h1] at h; exact absurd h h1
  have hB : npB r xs (x - f).toNat n.toNat = true := by
    by_cases hB : npB r xs (x - f).toNat n.toNat = true
    · exact hB
    · unfold npE at h; rw [if_pos h1, if_neg hB] at h; cases h
  obtain ⟨hb, -, ht, ⟨r0, r1⟩, ⟨x0, x1⟩, ⟨n0, n1⟩, xn, hd⟩ := as_in h1
  have f0 := ht.1
  have e : npY r f xs x n b = colL (npF r xs b (x - f).toNat) n.toNat := by unfold npY; rw [if_pos h]
  rw [e, colL_len]
  refine ⟨⟨by omega, x1⟩, by omega, fun j hj => ?_⟩
  have ek : (x + (j : Int) - f).toNat = (x - f).toNat + j := by omega
  have hdj := npB_iff.1 hB j hj
  have hc : asE r f xs 1 (x + j) 1 b = 0 := anE_iff.2 ⟨coE_iff.2 ⟨ht, ⟨r0, r1⟩, by omega, by omega⟩, by rw [hb]; rfl, by omega, by omega, by rw [ek]; exact hdj⟩
  refine ⟨hc, ?_⟩
  rw [colL_get _ _ _ hj]
  unfold priV npF
  rw [if_pos hc, ek]
  have es := ht.cM_step r ((x - f).toNat + j)
  rw [show asT r f xs 1 (x + j) 1 = cM r xs (x + j - f).toNat - cM r xs (x + j + 1 - f).toNat from rfl, ek, show (x + (j : Int) + 1 - f).toNat = (x - f).toNat + j + 1 by omega]
  congr 1
  omega

set_option maxRecDepth 100000 in
set_option maxHeartbeats 8000000 in
theorem fnAssurances_walk (a0 : Option Addr) (len0 cap0 : Nat) (z0 : List Int) (w : World) (w0 : IsRow .u8 w a0 len0 cap0 z0) :
    Calls Try.prog 3 #[.slice a0 len0 cap0] w fun e w' => e = .returned (.bool true) ∧ Below w.heap.size w w' := by
  by_cases hbig : (4096 : Int) < len0
  · go_enter Try.func3, Try.ntmps3
    go_wp2_with (go_at_call 10; refine (bigI_any _ _ _ _).mono ?_; rintro e w' ⟨rfl, rfl⟩)
    go_ret
    exact ⟨rfl, Below.refl _ _⟩
  have HRA := Lib.hid w0.apart
  have HR := Lib.hid w0
  clear w0
  go_enter Try.func3, Try.ntmps3
  go_wp2_with (go_at_call 10; refine (bigI_any _ _ _ _).mono ?_; rintro e w' ⟨rfl, rfl⟩)
  refine (drawTP _ _ _ _ _ HR.out).mono ?_
  rintro e w1 ⟨F, ta, tn, tc, xs, r, x, n, b, rfl, hI, htc, htn, hb⟩
  have hq := box_b w1 (.cells #[.int .i64 F, .slice ta tn tc] 26)
  have HB : Hid (Below w.heap.size w (w1.alloc (.cells #[.int .i64 F, .slice ta tn tc] 26))) := Lib.hid (hb.trans (hq.mono hb.size))
  have k0 : (w1.alloc (.cells #[.int .i64 F, .slice ta tn tc] 26)).cell? ⟨w1.heap.size, 0, none⟩ = some (.int .i64 F) := by go_simp
  have k1 : (w1.alloc (.cells #[.int .i64 F, .slice ta tn tc] 26)).cell? ⟨w1.heap.size, 1, none⟩ = some (.slice ta tn tc) := by go_simp
  have HI := Lib.hid (hI.on hq)
  clear hb hI hq
  go_wp2_with fail
  obtain ⟨T, hT⟩ : ∃ T, w1.heap.size = T := ⟨_, rfl⟩
  rw [hT] at k0 k1
  (try rw [hT])
  clear hT
  generalize (w1.alloc (.cells #[.int .i64 F, .slice ta tn tc] 26)) = w2 at HB HI k0 k1 ⊢
  refine (ipart_any r F xs ta tn tc x n b _ HI.out htc).mono ?_
  rintro e w3 ⟨rfl, hb⟩
  have k0 := keep2 hb k0
  have k1 := keep2 hb k1
  have HB := Lib.hid (HB.out.trans (hb.mono HB.out.size))
  have HI := Lib.hid (HI.out.on hb)
  clear hb
  go_wp2_with fail
  refine (spart_any r F xs ta tn tc x n b _ HI.out).mono ?_
  rintro e w4 ⟨rfl, hb⟩
  have k0 := keep2 hb k0
  have k1 := keep2 hb k1
  have HB := Lib.hid (HB.out.trans (hb.mono HB.out.size))
  have HI := Lib.hid (HI.out.on hb)
  have HR4 := Lib.hid (HR.out.below HB.out HRA.out)
  clear hb
  go_wp2_with fail
  refine (drawNP _ _ _ _ _ HR4.out).mono ?_
  rintro e w5 ⟨G, ua, un, uc, ys, s, y, m, v, rfl, hJ, huc, hun, hb⟩
  have hq := box_b w5 (.cells #[.int .i64 G, .slice ua un uc] 26)
  have hbq := hb.trans (hq.mono hb.size)
  have k0 := keep2 hbq k0
  have k1 := keep2 hbq k1
  have e0 : (w5.alloc (.cells #[.int .i64 G, .slice ua un uc] 26)).cell? ⟨w5.heap.size, 0, none⟩ = some (.int .i64 G) := by go_simp
  have e1 : (w5.alloc (.cells #[.int .i64 G, .slice ua un uc] 26)).cell? ⟨w5.heap.size, 1, none⟩ = some (.slice ua un uc) := by go_simp
  have HF : Hid (FY w T w5.heap.size F ta tn tc xs G ua un uc ys [] (w5.alloc (.cells #[.int .i64 G, .slice ua un uc] 26))) :=
    Lib.hid ⟨HB.out.trans (hbq.mono HB.out.size), k0, k1, e0, e1, HI.out.on hbq, hJ.on hq, fun p hp => by cases hp⟩
  clear hb hJ hq hbq HB HI HR4 HR HRA
  go_wp2_with fail
  obtain ⟨U, hU⟩ : ∃ T, w5.heap.size = T := ⟨_, rfl⟩
  rw [hU] at HF e0 e1
  (try rw [hU])
  clear hU
  generalize (w5.alloc (.cells #[.int .i64 G, .slice ua un uc] 26)) = w6 at HF k0 k1 e0 e1 ⊢
  have CI : Hid (∀ W, Hid (FY w T U F ta tn tc xs G ua un uc ys [] W) → Calls Try.prog 15 #[.agg #[.int .i64 G, .slice ua un uc], .int .i64 s, .int .i64 y, .int .i64 m, .int .i64 v] W (LsPost (npY s G ys y m v) (npE s G ys y m v) W)) := Lib.hid (fun W hW => inat_any s G ys ua un uc y m v W hW.out.i2 huc)
  have CS : Hid (∀ L W, Hid (FY w T U F ta tn tc xs G ua un uc ys L W) → Calls Try.prog 16 #[.agg #[.int .i64 G, .slice ua un uc], .int .i64 s, .int .i64 y, .int .i64 m, .int .i64 v] W (LsPost (npY s G ys y m v) (npE s G ys y m v) W)) := Lib.hid (fun L W hW => snat_any s G ys ua un uc y m v W hW.out.i2)
  have HX := Lib.hid (fun (h : npE s G ys y m v = 0) => nat_facts h)
  have HA := Lib.hid (fun (h : asE r F xs 1 x n b = 0) => part_facts h)
  have WE : Hid (∀ W L, Hid (FY w T U F ta tn tc xs G ua un uc ys L W) → Calls Try.prog 18 #[.agg #[.int .i64 F, .slice ta tn tc], .int .i64 r, .int .i64 2, .int .i64 x, .int .i64 n, .int .i64 b] W fun e w' => e = .returned (.tuple #[.int .i64 (priV r F xs 2 x n b), .int .i64 (asE r F xs 2 x n b)]) ∧ Hid (FY w T U F ta tn tc xs G ua un uc ys L w')) :=
    Lib.hid (fun W L hW => (ipri_any r F xs ta tn tc 2 x n b W hW.out.i1 htc).mono fun e w' ⟨he, hb⟩ => ⟨he, Lib.hid (hW.out.step hb)⟩)
  have WP : Hid (∀ (j : Nat) W L, Hid (FY w T U F ta tn tc xs G ua un uc ys L W) → Calls Try.prog 18 #[.agg #[.int .i64 G, .slice ua un uc], .int .i64 s, .int .i64 1, .int .i64 (y + j), .int .i64 1, .int .i64 v] W fun e w' => e = .returned (.tuple #[.int .i64 (priV s G ys 1 (y + j) 1 v), .int .i64 (asE s G ys 1 (y + j) 1 v)]) ∧ Hid (FY w T U F ta tn tc xs G ua un uc ys L w')) :=
    Lib.hid (fun j W L hW => (ipri_any s G ys ua un uc 1 (y + j) 1 v W hW.out.i2 huc).mono fun e w' ⟨he, hb⟩ => ⟨he, Lib.hid (hW.out.step hb)⟩)
  obtain ⟨Y, hY⟩ : ∃ y_, npY s G ys y m v = y_ := ⟨_, rfl⟩
  obtain ⟨E3, hE3⟩ : ∃ y_, npE s G ys y m v = y_ := ⟨_, rfl⟩
  obtain ⟨E0, hE0⟩ : ∃ y_, asE r F xs 1 x n b = y_ := ⟨_, rfl⟩
  obtain ⟨A, hA⟩ : ∃ y_, priV r F xs 1 x n b = y_ := ⟨_, rfl⟩
  obtain ⟨B, hB⟩ : ∃ y_, priV r F xs 3 x n b = y_ := ⟨_, rfl⟩
  rw [hY, hE3] at CI CS HX
  rw [hE0, hA, hB] at HA ⊢
  clear hY hE3 hE0 hA hB
  go_wp2_with fail
  refine (CI.out _ HF).mono ?_
  rintro e w9 ⟨ga, gn, gc, rfl, hT, hb⟩
  have HF := Lib.hid (HF.out.add hb (ga, gn, Y) hT.ints)
  have e0 := HF.out.d0
  have e1 := HF.out.d1
  clear hb hT CI
  go_wp2_with fail
  refine (CS.out _ _ HF).mono ?_
  rintro e w10 ⟨sa, sn, sc, rfl, hT, hb⟩
  have HF := Lib.hid (HF.out.add hb (sa, sn, Y) hT.ints)
  clear hb hT CS
  go_wp2_with fail
  with_reducible refine (like_any Y Y _ _ _ _ _ _ _ (HF.out.ls (ga, gn, Y) (by simp)) (HF.out.ls (sa, sn, Y) (by simp))).mono ?_
  rintro e w11 ⟨rfl, nD, rfl⟩
  have HF := Lib.hid (HF.out.step (below_drewN (Below.refl _ _) nD))
  obtain ⟨w12, hw12⟩ : ∃ W, W = w10.drewN nD := ⟨_, rfl⟩
  rw [← hw12] at HF ⊢
  clear hw12 e0 e1 k0 k1
  have hgl := (HF.out.ls (ga, gn, Y) (by simp)).len
  simp only at hgl
  have HL := Lib.hid hgl
  by_cases hz3 : E3 = 0
  · subst hz3
    obtain ⟨⟨y0, y1⟩, hy120, hyj⟩ := HX.out rfl
    rw [HL.out] at hy120 hyj
    have HYJ := Lib.hid hyj
    clear HX hyj hgl
    go_wp2_with fail
    go_loopw [23] (fun i wr => ∃ j : Nat, j ≤ gn ∧ i = .int .i64 j ∧ Hid (FY w T U F ta tn tc xs G ua un uc ys [(sa, sn, Y), (ga, gn, Y)] wr)) (fun i _ => (gn - intOf i).toNat)
    case atStart => exact ⟨0, by omega, rfl, HF⟩
    case round =>
      clear HF
      obtain ⟨j, hj, rfl, HF⟩ := hrel
      have k0 := HF.out.c0
      have k1 := HF.out.c1
      have e0 := HF.out.d0
      have e1 := HF.out.d1
      by_cases hlt : (j : Int) < gn
      · obtain ⟨p1, p2⟩ := HYJ.out j (by omega)
        obtain ⟨N, hN⟩ : ∃ y_, Y.getD j 0 = y_ := ⟨_, rfl⟩
        have CP := Lib.hid (fun W hW => WP.out j W [(sa, sn, Y), (ga, gn, Y)] hW)
        rw [p1, p2, hN] at CP
        have HN := Lib.hid hN
        have q1 : IntKind.i64.wrap (y + (j : Int)) = y + (j : Int) := IntWalk.i64_in _ (by omega)
        have hj0 : (0 : Int) ≤ j := by omega
        clear p1 p2 hN
        go_wp2_with fail
        with_reducible refine (CP.out _ HF).mono ?_
        rintro e w13 ⟨rfl, HF⟩
        have k0 := HF.out.c0
        have k1 := HF.out.c1
        have e0 := HF.out.d0
        have e1 := HF.out.d1
        obtain ⟨bN, oN, hga, hbN, hcN⟩ := (HF.out.ls (ga, gn, Y) (by simp)).at (by simp only; omega)
        have hx := hcN j (by simp only; omega)
        simp only at hga hx
        rw [HN.out] at hx
        subst hga
        clear hcN hbN CP HN
        go_wp2_with fail
        go_roundw
        case rel => exact ⟨j + 1, by omega, by go_num, HF⟩
        case measure => simp [intOf]; omega
      · clear WP HYJ
        by_cases hb0 : E0 = 0
        case neg =>
          have hb1 : (E0 != 0) = true := by simp [hb0]
          clear hb0 HA WE
          go_wp2_with fail
          go_ret
          exact ⟨rfl, HF.out.low⟩
        subst hb0
        obtain ⟨A', B', V, hA', hB', hV, hE2, ⟨A0, A1⟩, ⟨B0, B1⟩, ⟨V0, V1⟩, s0, s1⟩ := HA.out rfl
        subst hA' hB'
        rw [hV, hE2] at WE
        have q1 : IntKind.i64.wrap (A + B) = A + B := IntWalk.i64_in _ (by omega)
        have q2 : IntKind.i64.wrap (A + B - V) = A + B - V := IntWalk.i64_in _ (by omega)
        have hVX : V ≤ A + B := by omega
        clear HA hV hE2
        go_wp2_with (first
          | (go_at_call 18; ((with_reducible refine (WE.out _ _ HF).mono ?_); rintro e w' ⟨rfl, HF⟩; have k0 := HF.out.c0; have k1 := HF.out.c1)))
        go_ret
        exact ⟨rfl, HF.out.low⟩
  · have hz4 : (E3 == 0) = false := by simp [hz3]
    have k0 := HF.out.c0
    have k1 := HF.out.c1
    clear HX hz3 hgl WP
    by_cases hb0 : E0 = 0
    case neg =>
      have hb1 : (E0 != 0) = true := by simp [hb0]
      clear hb0 HA WE
      go_wp2_with fail
      go_loopw [23] (fun i wr => i = .int .i64 0 ∧ Hid (FY w T U F ta tn tc xs G ua un uc ys [(sa, sn, Y), (ga, gn, Y)] wr)) (fun i _ => 0)
      case atStart => exact ⟨rfl, HF⟩
      case round =>
        clear HF
        obtain ⟨rfl, HF⟩ := hrel
        have k0 := HF.out.c0
        have k1 := HF.out.c1
        go_wp2_with fail
        go_ret
        exact ⟨rfl, HF.out.low⟩
    subst hb0
    obtain ⟨A', B', V, hA', hB', hV, hE2, ⟨A0, A1⟩, ⟨B0, B1⟩, ⟨V0, V1⟩, s0, s1⟩ := HA.out rfl
    subst hA' hB'
    rw [hV, hE2] at WE
    have q1 : IntKind.i64.wrap (A + B) = A + B := IntWalk.i64_in _ (by omega)
    have q2 : IntKind.i64.wrap (A + B - V) = A + B - V := IntWalk.i64_in _ (by omega)
    have hVX : V ≤ A + B := by omega
    clear HA hV hE2
    go_wp2_with fail
    go_loopw [23] (fun i wr => i = .int .i64 0 ∧ Hid (FY w T U F ta tn tc xs G ua un uc ys [(sa, sn, Y), (ga, gn, Y)] wr)) (fun i _ => 0)
    case atStart => exact ⟨rfl, HF⟩
    case round =>
      clear HF
      obtain ⟨rfl, HF⟩ := hrel
      have k0 := HF.out.c0
      have k1 := HF.out.c1
      go_wp2_with (first
        | (go_at_call 18; ((with_reducible refine (WE.out _ _ HF).mono ?_); rintro e w' ⟨rfl, HF⟩; have k0 := HF.out.c0; have k1 := HF.out.c1)))
      go_ret
      exact ⟨rfl, HF.out.low⟩
end Go.Proofs.Ytnimmkbpcmgeaaa

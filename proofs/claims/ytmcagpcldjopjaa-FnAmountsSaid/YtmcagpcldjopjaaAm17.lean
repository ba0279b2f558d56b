/- Merged: AnnG. -/
import Derived.Test.YtmcagpcldjopjaaAm16

/- The law on amounts: an amount for a price costs at most the price, and a cent more costs more. (Written by wip/gen/anng.py.) -/
namespace Go.Proofs.Ytmcagpcldjopjaa
open Go.ChangeShapes Go.WideShapes Go.ChangeAt Go.RowKit
set_option linter.unusedVariables false

/-- in the midst of a law on two tables and the lists that were handed over -/
structure FY (w : World) (T U : Nat) (F : Int) (ta : Option Addr) (tn tc : Nat) (xs : List Int) (G : Int) (ua : Option Addr) (un uc : Nat) (ys : List Int) (L : List (Option Addr × Nat × List Int)) (W : World) : Prop where
  low : Below w.heap.size w W
  c0 : W.cell? ⟨T, 0, none⟩ = some (.int .i64 F)
  c1 : W.cell? ⟨T, 1, none⟩ = some (.slice ta tn tc)
  d0 : W.cell? ⟨U, 0, none⟩ = some (.int .i64 G)
  d1 : W.cell? ⟨U, 1, none⟩ = some (.slice ua un uc)
  i1 : Ints W ta tn xs
  i2 : Ints W ua un ys
  ls : ∀ p ∈ L, Ints W p.1 p.2.1 p.2.2

theorem FY.step {w : World} {T U : Nat} {F : Int} {ta : Option Addr} {tn tc : Nat} {xs : List Int} {G : Int} {ua : Option Addr} {un uc : Nat} {ys : List Int} {L : List (Option Addr × Nat × List Int)} {W W' : World} (h : FY w T U F ta tn tc xs G ua un uc ys L W) (hb : Below W.heap.size W W') : FY w T U F ta tn tc xs G ua un uc ys L W' :=
  ⟨h.low.trans (hb.mono h.low.size), keep2 hb h.c0, keep2 hb h.c1, keep2 hb h.d0, keep2 hb h.d1, h.i1.on hb, h.i2.on hb, fun p hp => (h.ls p hp).on hb⟩

theorem FY.add {w : World} {T U : Nat} {F : Int} {ta : Option Addr} {tn tc : Nat} {xs : List Int} {G : Int} {ua : Option Addr} {un uc : Nat} {ys : List Int} {L : List (Option Addr × Nat × List Int)} {W W' : World} (h : FY w T U F ta tn tc xs G ua un uc ys L W) (hb : Below W.heap.size W W') (p : Option Addr × Nat × List Int) (hp : Ints W' p.1 p.2.1 p.2.2) : FY w T U F ta tn tc xs G ua un uc ys (p :: L) W' := by
  have g := h.step hb
  refine ⟨g.low, g.c0, g.c1, g.d0, g.d1, g.i1, g.i2, fun q hq => ?_⟩
  rcases List.mem_cons.1 hq with rfl | hq
  · exact hp
  · exact g.ls q hq

theorem amt_facts {r f : Int} {xs : List Int} {x p : Int} (h : anE r f xs x (inB p 1 1000000000) 0 = 0) :
    ∃ A : Int, amtV r f xs x p = A ∧ 0 ≤ A ∧ A ≤ 1000000000 ∧ (A ≤ 999999 → ∃ M : Int, lifeV r f xs x (A + 1) = M ∧ anE r f xs x (inB (A + 1) 1 1000000) 0 = 0 ∧ p < M) ∧ (1 ≤ A → A ≤ 999999 → ∃ O : Int, lifeV r f xs x A = O ∧ anE r f xs x (inB A 1 1000000) 0 = 0 ∧ O ≤ p) := by
  obtain ⟨hc, hb, -, xn, hd⟩ := anE_iff.1 h
  obtain ⟨ht, ⟨r0, r1⟩, x0, x1⟩ := coE_iff.1 hc
  obtain ⟨p0, p1⟩ := (inB_iff _ _ _).1 hb
  have d0 := (ht.cD_bd r r0 (x - f).toNat).1
  have e3 := ht.cN_ge r r0 (x - f).toNat
  have eA : amtV r f xs x p = p * cD r xs (x - f).toNat / cN r xs (x - f).toNat := by unfold amtV; rw [if_pos h]
  have hcode : ∀ b : Int, 1 ≤ b → b ≤ 1000000 → anE r f xs x (inB b 1 1000000) 0 = 0 := fun b h1 h2 => anE_iff.2 ⟨hc, (inB_iff _ _ _).2 ⟨h1, h2⟩, by omega, by omega, hd⟩
  obtain ⟨D, hD⟩ : ∃ y_, cD r xs (x - f).toNat = y_ := ⟨_, rfl⟩
  obtain ⟨N, hN⟩ : ∃ y_, cN r xs (x - f).toNat = y_ := ⟨_, rfl⟩
  have hlife : ∀ b : Int, 1 ≤ b → b ≤ 1000000 → lifeV r f xs x b = upV b N D := fun b h1 h2 => by unfold lifeV; rw [if_pos (hcode b h1 h2), hN, hD]
  rw [hD, hN] at eA
  rw [hD] at hd d0 e3
  rw [hN] at e3
  have hq := Int.mul_ediv_add_emod (p * D) N
  have hr0 := Int.emod_nonneg (p * D) (show N ≠ 0 by omega)
  have hr1 := Int.emod_lt_of_pos (p * D) (show 0 < N by omega)
  have hA0 : 0 ≤ p * D / N := Int.ediv_nonneg (Int.mul_nonneg (by omega) (by omega)) (by omega)
  have hA1 : p * D / N ≤ p := by
    have h1 : p * D ≤ p * N := Int.mul_le_mul_of_nonneg_left e3 (by omega)
    have h2 : p * D / N ≤ p * N / N := Int.ediv_le_ediv (by omega) h1
    rw [Int.mul_ediv_cancel _ (by omega)] at h2
    exact h2
  rw [Int.mul_comm N] at hq
  obtain ⟨A, hA⟩ : ∃ y_, p * D / N = y_ := ⟨_, rfl⟩
  rw [hA] at eA hq hA0 hA1
  refine ⟨A, eA, hA0, by omega, fun h1 => ⟨_, hlife (A + 1) (by omega) (by omega), hcode _ (by omega) (by omega), ?_⟩, fun h0 h1 => ⟨_, hlife A h0 (by omega), hcode _ h0 (by omega), ?_⟩⟩
  · obtain ⟨c1, _⟩ := upV_ceil (A + 1) N D (by omega)
    rw [Int.add_mul] at c1
    have : p * D < upV (A + 1) N D * D := by omega
    exact Int.lt_of_mul_lt_mul_right this (by omega)
  · obtain ⟨_, c2⟩ := upV_ceil A N D (by omega)
    have : upV A N D * D < (p + 1) * D := by rw [Int.add_mul]; omega
    have := Int.lt_of_mul_lt_mul_right this (by omega)
    omega

theorem idx_facts {r f : Int} {xs : List Int} {x b : Int} (h3 : apE r f xs b = 0) (h1 : anE r f xs x (inB b 1 1000000) 0 = 0) :
    ∃ k : Nat, x - f = k ∧ k < (apY r f xs b).length ∧ (apY r f xs b).getD k 0 = lifeV r f xs x b ∧ (0 ≤ f ∧ f ≤ 100) ∧ k ≤ 150 := by
  obtain ⟨hc, hb, -, xn, hd⟩ := anE_iff.1 h1
  obtain ⟨ht, ⟨r0, r1⟩, x0, x1⟩ := coE_iff.1 hc
  have hk : (x - f).toNat < xs.length - 1 := by
    by_cases hk : xs.length - 1 ≤ (x - f).toNat
    · exact absurd (ht.cD_far r _ hk) hd
    · omega
  have e : apY r f xs b = colL (apF r xs b) (xs.length - 1) := by unfold apY; rw [if_pos h3]
  have f0 := ht.1
  refine ⟨(x - f).toNat, by omega, by rw [e, colL_len]; exact hk, ?_, f0, by omega⟩
  rw [e, colL_get _ _ _ hk]
  unfold lifeV apF
  rw [if_pos h1]

set_option maxRecDepth 100000 in
set_option maxHeartbeats 8000000 in
theorem fnAmounts_walk (a0 : Option Addr) (len0 cap0 : Nat) (z0 : List Int) (w : World) (w0 : IsRow .u8 w a0 len0 cap0 z0) :
    Calls Try.prog 5 #[.slice a0 len0 cap0] w fun e w' => e = .returned (.bool true) ∧ Below w.heap.size w w' := by
  by_cases hbig : (4096 : Int) < len0
  · go_enter Try.func5, Try.ntmps5
    go_wp2_with (go_at_call 13; refine (bigI_any _ _ _ _).mono ?_; rintro e w' ⟨rfl, rfl⟩)
    go_ret
    exact ⟨rfl, Below.refl _ _⟩
  have HRA := Lib.hid w0.apart
  have HR := Lib.hid w0
  clear w0
  go_enter Try.func5, Try.ntmps5
  go_wp2_with (go_at_call 13; refine (bigI_any _ _ _ _).mono ?_; rintro e w' ⟨rfl, rfl⟩)
  refine (drawAF _ _ _ _ _ HR.out).mono ?_
  rintro e w1 ⟨F, ta, tn, tc, xs, r, x, p, rfl, hI, htc, htn, hb⟩
  have hq := box_b w1 (.cells #[.int .i64 F, .slice ta tn tc] 26)
  have HB : Hid (Below w.heap.size w (w1.alloc (.cells #[.int .i64 F, .slice ta tn tc] 26))) := Lib.hid (hb.trans (hq.mono hb.size))
  have k0 : (w1.alloc (.cells #[.int .i64 F, .slice ta tn tc] 26)).cell? ⟨w1.heap.size, 0, none⟩ = some (.int .i64 F) := by go_simp
  have k1 : (w1.alloc (.cells #[.int .i64 F, .slice ta tn tc] 26)).cell? ⟨w1.heap.size, 1, none⟩ = some (.slice ta tn tc) := by go_simp
  have HI := Lib.hid (hI.on hq)
  clear hb hI hq
  go_wp2_with fail
  obtain ⟨T, hT⟩ : ∃ T, w1.heap.size = T := ⟨_, rfl⟩
  rw [hT] at k0 k1
  (try rw [hT])
  clear hT
  generalize (w1.alloc (.cells #[.int .i64 F, .slice ta tn tc] 26)) = w2 at HB HI k0 k1 ⊢
  refine (iamtf_any r F xs ta tn tc x p _ HI.out htc).mono ?_
  rintro e w3 ⟨rfl, hb⟩
  have k0 := keep2 hb k0
  have k1 := keep2 hb k1
  have HB := Lib.hid (HB.out.trans (hb.mono HB.out.size))
  have HI := Lib.hid (HI.out.on hb)
  clear hb
  go_wp2_with fail
  refine (samtf_any r F xs ta tn tc x p _ HI.out).mono ?_
  rintro e w4 ⟨rfl, hb⟩
  have k0 := keep2 hb k0
  have k1 := keep2 hb k1
  have HB := Lib.hid (HB.out.trans (hb.mono HB.out.size))
  have HI := Lib.hid (HI.out.on hb)
  have HR4 := Lib.hid (HR.out.below HB.out HRA.out)
  clear hb
  go_wp2_with fail
  refine (drawLF _ _ _ _ _ HR4.out).mono ?_
  rintro e w5 ⟨G, ua, un, uc, ys, s, y, b, rfl, hJ, huc, hun, hb⟩
  have hq := box_b w5 (.cells #[.int .i64 G, .slice ua un uc] 26)
  have hbq := hb.trans (hq.mono hb.size)
  have k0 := keep2 hbq k0
  have k1 := keep2 hbq k1
  have e0 : (w5.alloc (.cells #[.int .i64 G, .slice ua un uc] 26)).cell? ⟨w5.heap.size, 0, none⟩ = some (.int .i64 G) := by go_simp
  have e1 : (w5.alloc (.cells #[.int .i64 G, .slice ua un uc] 26)).cell? ⟨w5.heap.size, 1, none⟩ = some (.slice ua un uc) := by go_simp
  have HF : Hid (FY w T w5.heap.size F ta tn tc xs G ua un uc ys [] (w5.alloc (.cells #[.int .i64 G, .slice ua un uc] 26))) :=
    Lib.hid ⟨HB.out.trans (hbq.mono HB.out.size), k0, k1, e0, e1, HI.out.on hbq, hJ.on hq, fun p hp => by cases hp⟩
  clear hb hJ hq hbq HB HI HR4 HR HRA
  go_wp2_with fail
  obtain ⟨U, hU⟩ : ∃ T, w5.heap.size = T := ⟨_, rfl⟩
  rw [hU] at HF e0 e1
  (try rw [hU])
  clear hU
  generalize (w5.alloc (.cells #[.int .i64 G, .slice ua un uc] 26)) = w6 at HF k0 k1 e0 e1 ⊢
  refine (ilife_any s G ys ua un uc y b _ HF.out.i2 huc).mono ?_
  rintro e w7 ⟨rfl, hb⟩
  have HF := Lib.hid (HF.out.step hb)
  have e0 := HF.out.d0
  have e1 := HF.out.d1
  clear hb
  go_wp2_with fail
  refine (slife_any s G ys ua un uc y b _ HF.out.i2).mono ?_
  rintro e w8 ⟨rfl, hb⟩
  have HF := Lib.hid (HF.out.step hb)
  have e0 := HF.out.d0
  have e1 := HF.out.d1
  clear hb
  have CI : Hid (∀ W, Hid (FY w T U F ta tn tc xs G ua un uc ys [] W) → Calls Try.prog 33 #[.agg #[.int .i64 G, .slice ua un uc], .int .i64 s, .int .i64 b] W (LsPost (apY s G ys b) (apE s G ys b) W)) := Lib.hid (fun W hW => iap_any s G ys ua un uc b W hW.out.i2 huc)
  have CS : Hid (∀ L W, Hid (FY w T U F ta tn tc xs G ua un uc ys L W) → Calls Try.prog 34 #[.agg #[.int .i64 G, .slice ua un uc], .int .i64 s, .int .i64 b] W (LsPost (apY s G ys b) (apE s G ys b) W)) := Lib.hid (fun L W hW => sap_any s G ys ua un uc b W hW.out.i2)
  have HX := Lib.hid (fun (h3 : apE s G ys b = 0) (h1 : anE s G ys y (inB b 1 1000000) 0 = 0) => idx_facts h3 h1)
  have HA := Lib.hid (fun (h : anE r F xs x (inB p 1 1000000000) 0 = 0) => amt_facts h)
  have WI : Hid (∀ m W L, Hid (FY w T U F ta tn tc xs G ua un uc ys L W) → Calls Try.prog 27 #[.agg #[.int .i64 F, .slice ta tn tc], .int .i64 r, .int .i64 x, .int .i64 m] W fun e w' => e = .returned (.tuple #[.int .i64 (lifeV r F xs x m), .int .i64 (anE r F xs x (inB m 1 1000000) 0)]) ∧ Hid (FY w T U F ta tn tc xs G ua un uc ys L w')) :=
    Lib.hid (fun m W L hW => (ilife_any r F xs ta tn tc x m W hW.out.i1 htc).mono fun e w' ⟨he, hb⟩ => ⟨he, Lib.hid (hW.out.step hb)⟩)
  obtain ⟨Y, hY⟩ : ∃ y_, apY s G ys b = y_ := ⟨_, rfl⟩
  obtain ⟨E3, hE3⟩ : ∃ y_, apE s G ys b = y_ := ⟨_, rfl⟩
  obtain ⟨E1, hE1⟩ : ∃ y_, anE s G ys y (inB b 1 1000000) 0 = y_ := ⟨_, rfl⟩
  obtain ⟨V, hV⟩ : ∃ y_, lifeV s G ys y b = y_ := ⟨_, rfl⟩
  obtain ⟨E0, hE0⟩ : ∃ y_, anE r F xs x (inB p 1 1000000000) 0 = y_ := ⟨_, rfl⟩
  obtain ⟨A, hA⟩ : ∃ y_, amtV r F xs x p = y_ := ⟨_, rfl⟩
  rw [hY, hE3] at CI CS HX
  rw [hE1, hV] at HX ⊢
  rw [hE0, hA] at HA ⊢
  clear hY hE3 hE1 hV hE0 hA
  go_wp2_with fail
  refine (CI.out _ HF).mono ?_
  rintro e w9 ⟨ga, gn, gc, rfl, hT, hb⟩
  have HF := Lib.hid (HF.out.add hb (ga, gn, Y) hT.ints)
  have e0 := HF.out.d0
  have e1 := HF.out.d1
  clear hb hT CI
  go_wp2_with fail
  refine (CS.out _ _ HF).mono ?_
  rintro e w10 ⟨sa, sn, sc, rfl, hT, hb⟩
  have HF := Lib.hid (HF.out.add hb (sa, sn, Y) hT.ints)
  clear hb hT CS
  go_wp2_with fail
  with_reducible refine (like_any Y Y _ _ _ _ _ _ _ (HF.out.ls (ga, gn, Y) (by simp)) (HF.out.ls (sa, sn, Y) (by simp))).mono ?_
  rintro e w11 ⟨rfl, nD, rfl⟩
  have HF := Lib.hid (HF.out.step (below_drewN (Below.refl _ _) nD))
  obtain ⟨w12, hw12⟩ : ∃ W, W = w10.drewN nD := ⟨_, rfl⟩
  rw [← hw12] at HF ⊢
  clear hw12 e0 e1 k0 k1
  have k0 := HF.out.c0
  have k1 := HF.out.c1
  have e0 := HF.out.d0
  have e1 := HF.out.d1
  by_cases h31 : E3 = 0 ∧ E1 = 0
  case neg =>
    have h3 : E3 = 0 → (E1 == 0) = false := fun h => by simp; exact fun e => h31 ⟨h, e⟩
    by_cases hz3 : E3 = 0
    · have hz1 := h3 hz3
      have hz4 : (E3 == 0) = true := by simp [hz3]
      clear h31 h3 HX hz3
      by_cases hb0 : E0 = 0
      case neg =>
        have hb1 : (E0 != 0) = true := by simp [hb0]
        clear hb0 HA WI
        go_wp2_with fail
        go_ret
        exact ⟨rfl, HF.out.low⟩
      subst hb0
      obtain ⟨A', hA', A0, A1, hmore, hown⟩ := HA.out rfl
      subst hA'
      by_cases hc : 999999 < A
      · clear HA WI hmore hown
        go_wp2_with fail
        go_ret
        exact ⟨rfl, HF.out.low⟩
      obtain ⟨M, hM, hM0, hM1⟩ := hmore (by omega)
      have WM : Hid (∀ W L, Hid (FY w T U F ta tn tc xs G ua un uc ys L W) → Calls Try.prog 27 #[.agg #[.int .i64 F, .slice ta tn tc], .int .i64 r, .int .i64 x, .int .i64 (A + 1)] W fun e w' => e = .returned (.tuple #[.int .i64 M, .int .i64 0]) ∧ Hid (FY w T U F ta tn tc xs G ua un uc ys L w')) := Lib.hid (fun W L hW => by
        have := WI.out (A + 1) W L hW
        rw [hM, hM0] at this
        exact this)
      by_cases ha : A = 0
      · have ha2 : (A == 0) = true := by simp [ha]
        clear HA WI hown hM hM0 ha
        go_wp2_with (first
          | (go_at_call 27; ((with_reducible refine (WM.out _ _ HF).mono ?_); rintro e w' ⟨rfl, HF⟩; have k0 := HF.out.c0; have k1 := HF.out.c1)))
        go_ret
        exact ⟨rfl, HF.out.low⟩
      · have ha2 : (A == 0) = false := by simp [ha]
        obtain ⟨O, hO, hO0, hO1⟩ := hown (by omega) (by omega)
        have WO : Hid (∀ W L, Hid (FY w T U F ta tn tc xs G ua un uc ys L W) → Calls Try.prog 27 #[.agg #[.int .i64 F, .slice ta tn tc], .int .i64 r, .int .i64 x, .int .i64 A] W fun e w' => e = .returned (.tuple #[.int .i64 O, .int .i64 0]) ∧ Hid (FY w T U F ta tn tc xs G ua un uc ys L w')) := Lib.hid (fun W L hW => by
          have := WI.out A W L hW
          rw [hO, hO0] at this
          exact this)
        clear HA WI hM hM0 ha hO hO0
        go_wp2_with (first
          | (go_at_call 27; ((first | (with_reducible refine (WM.out _ _ HF).mono ?_) | (with_reducible refine (WO.out _ _ HF).mono ?_)); rintro e w' ⟨rfl, HF⟩; have k0 := HF.out.c0; have k1 := HF.out.c1)))
        go_ret
        exact ⟨rfl, HF.out.low⟩
    · have hz4 : (E3 == 0) = false := by simp [hz3]
      clear h31 h3 HX hz3
      by_cases hb0 : E0 = 0
      case neg =>
        have hb1 : (E0 != 0) = true := by simp [hb0]
        clear hb0 HA WI
        go_wp2_with fail
        go_ret
        exact ⟨rfl, HF.out.low⟩
      subst hb0
      obtain ⟨A', hA', A0, A1, hmore, hown⟩ := HA.out rfl
      subst hA'
      by_cases hc : 999999 < A
      · clear HA WI hmore hown
        go_wp2_with fail
        go_ret
        exact ⟨rfl, HF.out.low⟩
      obtain ⟨M, hM, hM0, hM1⟩ := hmore (by omega)
      have WM : Hid (∀ W L, Hid (FY w T U F ta tn tc xs G ua un uc ys L W) → Calls Try.prog 27 #[.agg #[.int .i64 F, .slice ta tn tc], .int .i64 r, .int .i64 x, .int .i64 (A + 1)] W fun e w' => e = .returned (.tuple #[.int .i64 M, .int .i64 0]) ∧ Hid (FY w T U F ta tn tc xs G ua un uc ys L w')) := Lib.hid (fun W L hW => by
        have := WI.out (A + 1) W L hW
        rw [hM, hM0] at this
        exact this)
      by_cases ha : A = 0
      · have ha2 : (A == 0) = true := by simp [ha]
        clear HA WI hown hM hM0 ha
        go_wp2_with (first
          | (go_at_call 27; ((with_reducible refine (WM.out _ _ HF).mono ?_); rintro e w' ⟨rfl, HF⟩; have k0 := HF.out.c0; have k1 := HF.out.c1)))
        go_ret
        exact ⟨rfl, HF.out.low⟩
      · have ha2 : (A == 0) = false := by simp [ha]
        obtain ⟨O, hO, hO0, hO1⟩ := hown (by omega) (by omega)
        have WO : Hid (∀ W L, Hid (FY w T U F ta tn tc xs G ua un uc ys L W) → Calls Try.prog 27 #[.agg #[.int .i64 F, .slice ta tn tc], .int .i64 r, .int .i64 x, .int .i64 A] W fun e w' => e = .returned (.tuple #[.int .i64 O, .int .i64 0]) ∧ Hid (FY w T U F ta tn tc xs G ua un uc ys L w')) := Lib.hid (fun W L hW => by
          have := WI.out A W L hW
          rw [hO, hO0] at this
          exact this)
        clear HA WI hM hM0 ha hO hO0
        go_wp2_with (first
          | (go_at_call 27; ((first | (with_reducible refine (WM.out _ _ HF).mono ?_) | (with_reducible refine (WO.out _ _ HF).mono ?_)); rintro e w' ⟨rfl, HF⟩; have k0 := HF.out.c0; have k1 := HF.out.c1)))
        go_ret
        exact ⟨rfl, HF.out.low⟩
  obtain ⟨rfl, rfl⟩ := h31
  obtain ⟨k, hk, hkl, hkv, ⟨G0, G1⟩, hk1⟩ := HX.out rfl rfl
  have lN := (HF.out.ls (sa, sn, Y) (by simp)).len
  simp only at lN
  obtain ⟨bN, oN, hsa, hbN, hcN⟩ := (HF.out.ls (sa, sn, Y) (by simp)).at (by simp only; omega)
  have hx := hcN k (by simp only; omega)
  simp only at hsa hx
  subst hsa
  rw [hkv] at hx
  have hkn : (k : Int) < sn := by omega
  have q1 : IntKind.i64.wrap (y - G) = (k : Int) := by rw [hk]; exact IntWalk.i64_in _ (by omega)
  have hk0 : (0 : Int) ≤ k := by omega
  clear HX hcN hbN hkv lN hkl hk
  by_cases hb0 : E0 = 0
  case neg =>
    have hb1 : (E0 != 0) = true := by simp [hb0]
    clear hb0 HA WI
    go_wp2_with fail
    go_ret
    exact ⟨rfl, HF.out.low⟩
  subst hb0
  obtain ⟨A', hA', A0, A1, hmore, hown⟩ := HA.out rfl
  subst hA'
  by_cases hc : 999999 < A
  · clear HA WI hmore hown
    go_wp2_with fail
    go_ret
    exact ⟨rfl, HF.out.low⟩
  obtain ⟨M, hM, hM0, hM1⟩ := hmore (by omega)
  have WM : Hid (∀ W L, Hid (FY w T U F ta tn tc xs G ua un uc ys L W) → Calls Try.prog 27 #[.agg #[.int .i64 F, .slice ta tn tc], .int .i64 r, .int .i64 x, .int .i64 (A + 1)] W fun e w' => e = .returned (.tuple #[.int .i64 M, .int .i64 0]) ∧ Hid (FY w T U F ta tn tc xs G ua un uc ys L w')) := Lib.hid (fun W L hW => by
    have := WI.out (A + 1) W L hW
    rw [hM, hM0] at this
    exact this)
  by_cases ha : A = 0
  · have ha2 : (A == 0) = true := by simp [ha]
    clear HA WI hown hM hM0 ha
    go_wp2_with (first
      | (go_at_call 27; ((with_reducible refine (WM.out _ _ HF).mono ?_); rintro e w' ⟨rfl, HF⟩; have k0 := HF.out.c0; have k1 := HF.out.c1)))
    go_ret
    exact ⟨rfl, HF.out.low⟩
  · have ha2 : (A == 0) = false := by simp [ha]
    obtain ⟨O, hO, hO0, hO1⟩ := hown (by omega) (by omega)
    have WO : Hid (∀ W L, Hid (FY w T U F ta tn tc xs G ua un uc ys L W) → Calls Try.prog 27 #[.agg #[.int .i64 F, .slice ta tn tc], .int .i64 r, .int .i64 x, .int .i64 A] W fun e w' => e = .returned (.tuple #[.int .i64 O, .int .i64 0]) ∧ Hid (FY w T U F ta tn tc xs G ua un uc ys L w')) := Lib.hid (fun W L hW => by
      have := WI.out A W L hW
      rw [hO, hO0] at this
      exact this)
    clear HA WI hM hM0 ha hO hO0
    go_wp2_with (first
      | (go_at_call 27; ((first | (with_reducible refine (WM.out _ _ HF).mono ?_) | (with_reducible refine (WO.out _ _ HF).mono ?_)); rintro e w' ⟨rfl, HF⟩; have k0 := HF.out.c0; have k1 := HF.out.c1)))
    go_ret
    exact ⟨rfl, HF.out.low⟩

end Go.Proofs.Ytmcagpcldjopjaa

/- Merged: AnnF, AnnL, AnnM, Lsum. -/
import Derived.Test.YtmcagpcldjopjaaAm4
import Derived.Test.YtmcagpcldjopjaaAm8
import Derived.Test.YtmcagpcldjopjaaAm11
import Derived.Test.YtmcagpcldjopjaaAm14
import Derived.Test.YtmcagpcldjopjaaAm15
import Derived.Deep.RegionHeld3

/- The law on annuities: payments for some years and those behind them. -/
namespace Go.Proofs.Ytmcagpcldjopjaa
open Go.ChangeShapes Go.WideShapes Go.ChangeAt Go.RowKit
set_option linter.unusedVariables false

/-- in the midst of a law on a table: T is its box -/
structure FX (T : Nat) (F : Int) (ta : Option Addr) (tn tc : Nat) (xs : List Int) (w w' : World) : Prop where
  low : Below w.heap.size w w'
  c0 : w'.cell? ⟨T, 0, none⟩ = some (.int .i64 F)
  c1 : w'.cell? ⟨T, 1, none⟩ = some (.slice ta tn tc)
  ints : Ints w' ta tn xs

theorem FX.step {T : Nat} {F : Int} {ta : Option Addr} {tn tc : Nat} {xs : List Int} {w w1 w2 : World} (h : FX T F ta tn tc xs w w1) (hb : Below w1.heap.size w1 w2) : FX T F ta tn tc xs w w2 :=
  ⟨h.low.trans (hb.mono h.low.size), keep2 hb h.c0, keep2 hb h.c1, h.ints.on hb⟩

/-- rounded up: the least number that is enough -/
theorem upV_ceil (a b c : Int) (hc : 1 ≤ c) : a * b ≤ upV a b c * c ∧ upV a b c * c < a * b + c := by
  have h := Int.mul_ediv_add_emod (a * b) c
  have r0 := Int.emod_nonneg (a * b) (show c ≠ 0 by omega)
  have r1 := Int.emod_lt_of_pos (a * b) (show 0 < c by omega)
  rw [Int.mul_comm c] at h
  unfold upV
  obtain ⟨q, hq⟩ : ∃ y_, a * b / c = y_ := ⟨_, rfl⟩
  obtain ⟨r, hr⟩ : ∃ y_, a * b % c = y_ := ⟨_, rfl⟩
  obtain ⟨p, hp⟩ : ∃ y_, a * b = y_ := ⟨_, rfl⟩
  rw [hq, hr] at h ⊢
  rw [hr] at r0 r1
  rw [hp] at h ⊢
  rw [Int.add_mul]
  obtain ⟨t, ht⟩ : ∃ y_, q * c = y_ := ⟨_, rfl⟩
  rw [ht] at h ⊢
  by_cases hz : 0 < r
  · rw [if_pos hz]; omega
  · rw [if_neg hz]; omega

/-- two parts cost together what the whole costs, but for one -/
theorem up_parts (b U V c : Int) (hc : 1 ≤ c) : 0 ≤ upV b U c + upV b V c - upV b (U + V) c ∧ upV b U c + upV b V c - upV b (U + V) c ≤ 1 := by
  obtain ⟨a1, a2⟩ := upV_ceil b U c hc
  obtain ⟨b1, b2⟩ := upV_ceil b V c hc
  obtain ⟨c1, c2⟩ := upV_ceil b (U + V) c hc
  rw [Int.mul_add] at c1 c2
  obtain ⟨s, hs⟩ : ∃ s, upV b U c + upV b V c - upV b (U + V) c = s := ⟨_, rfl⟩
  have e : s * c = upV b U c * c + upV b V c * c - upV b (U + V) c * c := by rw [← hs, Int.sub_mul, Int.add_mul]
  rw [hs]
  have h1 : (-1) * c < s * c := by omega
  have h2 : s * c < 2 * c := by omega
  have h3 := Int.lt_of_mul_lt_mul_right h1 (by omega)
  have h4 := Int.lt_of_mul_lt_mul_right h2 (by omega)
  omega

theorem LTab.cN_diff {f : Int} {xs : List Int} (h : LTab f xs) (r : Int) (r0 : 0 ≤ r) (k n : Nat) : cN r xs k - cN r xs (k + n) ≤ n * cD r xs k := by
  induction n with
  | zero => simp
  | succ n ih =>
    have := h.cN_step r (k + n)
    have := h.cD_mono r r0 k n
    rw [show k + (n + 1) = k + n + 1 by omega, show ((n + 1 : Nat) : Int) * cD r xs k = (n : Int) * cD r xs k + cD r xs k by rw [Int.natCast_add, Int.add_mul]; omega]
    omega

/-- what the law asks of the numbers -/
theorem ann_facts {r f : Int} {xs : List Int} {x b n : Int} (h : anE r f xs x (inB b 1 1000000) n = 0) :
    anE r f xs x (inB b 1 1000000) 0 = 0 ∧ (0 ≤ n ∧ n ≤ 120) ∧ (1 ≤ b ∧ b ≤ 1000000) ∧ ∃ X Y W Z : Int, termV r f xs x b n = X ∧ lateV r f xs x b n = Y ∧ lifeV r f xs x b = W ∧ sureV r f xs x b n = Z ∧
      (0 ≤ X ∧ X ≤ 200000000) ∧ (0 ≤ Y ∧ Y ≤ 200000000) ∧ (0 ≤ W ∧ W ≤ 200000000) ∧ (0 ≤ X + Y - W ∧ X + Y - W ≤ 1) ∧ (1 ≤ n → X ≤ b * n) ∧ (n ≤ 1 → X ≤ b) ∧ Y ≤ Z := by
  obtain ⟨hc, hb, ⟨n0, n1⟩, xn, hd⟩ := anE_iff.1 h
  obtain ⟨ht, ⟨r0, r1⟩, x0, x1⟩ := coE_iff.1 hc
  obtain ⟨b0, b1⟩ := (inB_iff _ _ _).1 hb
  have h0 : anE r f xs x (inB b 1 1000000) 0 = 0 := anE_iff.2 ⟨hc, hb, by omega, by omega, hd⟩
  obtain ⟨l0, l1⟩ := ht.late r r0 x n x0 n0
  have hn0 := (ht.cN_bd r r0 (x - f).toNat).1
  obtain ⟨-, q2, -, q4⟩ := ht.quot r r0 (x - f).toNat (cN r xs (x - f).toNat) b hn0 (Int.le_refl _) hd (by omega) b1
  obtain ⟨-, -, -, q5⟩ := ht.quot r r0 (x - f).toNat (cN r xs (x - f).toNat - cN r xs (x + n - f).toNat) b (by omega) (by omega) hd (by omega) b1
  obtain ⟨-, -, -, q6⟩ := ht.quot r r0 (x - f).toNat (cN r xs (x + n - f).toNat) b l0 l1 hd (by omega) b1
  obtain ⟨d0, d1, d2⟩ := sure_q r b n r0 n0 n1 (by omega) b1
  have hs0 := (upV_bd b (dsum r 0 n.toNat) 1000000000 120000000 (by omega) d0 (by omega) d2).1
  have hx := upV_bd b _ _ 152000000 (by omega) (show 0 ≤ cN r xs (x - f).toNat - cN r xs (x + n - f).toNat by omega) q2 q5
  have hy := upV_bd b _ _ 152000000 (by omega) l0 q2 q6
  have hw := upV_bd b _ _ 152000000 (by omega) hn0 q2 q4
  have hp := up_parts b (cN r xs (x - f).toNat - cN r xs (x + n - f).toNat) (cN r xs (x + n - f).toNat) (cD r xs (x - f).toNat) q2
  rw [show cN r xs (x - f).toNat - cN r xs (x + n - f).toNat + cN r xs (x + n - f).toNat = cN r xs (x - f).toNat by omega] at hp
  have hdf := ht.cN_diff r r0 (x - f).toNat n.toNat
  rw [show (x - f).toNat + n.toNat = (x + n - f).toNat by omega, show ((n.toNat : Nat) : Int) = n by omega] at hdf
  have hle : upV b (cN r xs (x - f).toNat - cN r xs (x + n - f).toNat) (cD r xs (x - f).toNat) ≤ b * n := by
    obtain ⟨_, e2⟩ := upV_ceil b (cN r xs (x - f).toNat - cN r xs (x + n - f).toNat) (cD r xs (x - f).toNat) q2
    have e3 : b * (cN r xs (x - f).toNat - cN r xs (x + n - f).toNat) ≤ b * (n * cD r xs (x - f).toNat) := Int.mul_le_mul_of_nonneg_left hdf (by omega)
    rw [← Int.mul_assoc] at e3
    have e4 : upV b (cN r xs (x - f).toNat - cN r xs (x + n - f).toNat) (cD r xs (x - f).toNat) * cD r xs (x - f).toNat < (b * n + 1) * cD r xs (x - f).toNat := by
      rw [Int.add_mul]; omega
    have := Int.lt_of_mul_lt_mul_right e4 (by omega)
    omega
  have eX : termV r f xs x b n = upV b (cN r xs (x - f).toNat - cN r xs (x + n - f).toNat) (cD r xs (x - f).toNat) := by unfold termV; rw [if_pos h]
  have eY : lateV r f xs x b n = upV b (cN r xs (x + n - f).toNat) (cD r xs (x - f).toNat) := by unfold lateV; rw [if_pos h]
  have eW : lifeV r f xs x b = upV b (cN r xs (x - f).toNat) (cD r xs (x - f).toNat) := by unfold lifeV; rw [if_pos h0]
  have eZ : sureV r f xs x b n = upV b (dsum r 0 n.toNat) 1000000000 + upV b (cN r xs (x + n - f).toNat) (cD r xs (x - f).toNat) := by unfold sureV; rw [if_pos h]
  refine ⟨h0, ⟨n0, n1⟩, ⟨b0, b1⟩, _, _, _, _, eX, eY, eW, eZ, by omega, by omega, by omega, hp, fun _ => hle, fun hn => ?_, by omega⟩
  have : b * n ≤ b * 1 := Int.mul_le_mul_of_nonneg_left hn (by omega)
  omega

set_option maxRecDepth 100000 in
set_option maxHeartbeats 4000000 in
theorem fnAnnuities_walk (a0 : Option Addr) (len0 cap0 : Nat) (z0 : List Int) (w : World) (w0 : IsRow .u8 w a0 len0 cap0 z0) :
    Calls Try.prog 4 #[.slice a0 len0 cap0] w fun e w' => e = .returned (.bool true) ∧ Below w.heap.size w w' := by
  by_cases hbig : (4096 : Int) < len0
  · go_enter Try.func4, Try.ntmps4
    go_wp2_with (go_at_call 13; refine (bigI_any _ _ _ _).mono ?_; rintro e w' ⟨rfl, rfl⟩)
    go_ret
    exact ⟨rfl, Below.refl _ _⟩
  have HR := Lib.hid w0
  clear w0
  go_enter Try.func4, Try.ntmps4
  go_wp2_with (go_at_call 13; refine (bigI_any _ _ _ _).mono ?_; rintro e w' ⟨rfl, rfl⟩)
  refine (drawTA _ _ _ _ _ HR.out).mono ?_
  rintro e w1 ⟨F, ta, tn, tc, xs, r, x, b, n, rfl, hI, htc, htn, hb⟩
  have HB := Lib.hid hb
  have HI := Lib.hid hI
  clear hb hI
  have hF0 : Hid (FX w1.heap.size F ta tn tc xs w (w1.alloc (.cells #[.int .i64 F, .slice ta tn tc] 26))) := Lib.hid (by
    have hq := box_b w1 (.cells #[.int .i64 F, .slice ta tn tc] 26)
    exact ⟨HB.out.trans (hq.mono HB.out.size), by go_simp, by go_simp, HI.out.on hq⟩)
  have k0 := hF0.out.c0
  have k1 := hF0.out.c1
  clear HB HI
  go_wp2_with fail
  obtain ⟨T, hT⟩ : ∃ T, w1.heap.size = T := ⟨_, rfl⟩
  rw [hT] at hF0 k0 k1
  (try rw [hT])
  clear hT
  generalize (w1.alloc (.cells #[.int .i64 F, .slice ta tn tc] 26)) = w2 at hF0 k0 k1 ⊢
  have HF := hF0
  clear hF0
  have TI : Hid (∀ W, Hid (FX T F ta tn tc xs w W) → Calls Try.prog 21 #[.agg #[.int .i64 F, .slice ta tn tc], .int .i64 r, .int .i64 x, .int .i64 b, .int .i64 n] W fun e w' => e = .returned (.tuple #[.int .i64 (termV r F xs x b n), .int .i64 (anE r F xs x (inB b 1 1000000) n)]) ∧ Hid (FX T F ta tn tc xs w w')) :=
    Lib.hid (fun W hW => (iterm_any r F xs ta tn tc x b n W hW.out.ints htc).mono fun e w' ⟨he, hb⟩ => ⟨he, Lib.hid (hW.out.step hb)⟩)
  have TS : Hid (∀ W, Hid (FX T F ta tn tc xs w W) → Calls Try.prog 22 #[.agg #[.int .i64 F, .slice ta tn tc], .int .i64 r, .int .i64 x, .int .i64 b, .int .i64 n] W fun e w' => e = .returned (.tuple #[.int .i64 (termV r F xs x b n), .int .i64 (anE r F xs x (inB b 1 1000000) n)]) ∧ Hid (FX T F ta tn tc xs w w')) :=
    Lib.hid (fun W hW => (sterm_any r F xs ta tn tc x b n W hW.out.ints).mono fun e w' ⟨he, hb⟩ => ⟨he, Lib.hid (hW.out.step hb)⟩)
  have LI : Hid (∀ W, Hid (FX T F ta tn tc xs w W) → Calls Try.prog 23 #[.agg #[.int .i64 F, .slice ta tn tc], .int .i64 r, .int .i64 x, .int .i64 b, .int .i64 n] W fun e w' => e = .returned (.tuple #[.int .i64 (lateV r F xs x b n), .int .i64 (anE r F xs x (inB b 1 1000000) n)]) ∧ Hid (FX T F ta tn tc xs w w')) :=
    Lib.hid (fun W hW => (ilate_any r F xs ta tn tc x b n W hW.out.ints htc).mono fun e w' ⟨he, hb⟩ => ⟨he, Lib.hid (hW.out.step hb)⟩)
  have LS : Hid (∀ W, Hid (FX T F ta tn tc xs w W) → Calls Try.prog 24 #[.agg #[.int .i64 F, .slice ta tn tc], .int .i64 r, .int .i64 x, .int .i64 b, .int .i64 n] W fun e w' => e = .returned (.tuple #[.int .i64 (lateV r F xs x b n), .int .i64 (anE r F xs x (inB b 1 1000000) n)]) ∧ Hid (FX T F ta tn tc xs w w')) :=
    Lib.hid (fun W hW => (slate_any r F xs ta tn tc x b n W hW.out.ints).mono fun e w' ⟨he, hb⟩ => ⟨he, Lib.hid (hW.out.step hb)⟩)
  have SI : Hid (∀ W, Hid (FX T F ta tn tc xs w W) → Calls Try.prog 25 #[.agg #[.int .i64 F, .slice ta tn tc], .int .i64 r, .int .i64 x, .int .i64 b, .int .i64 n] W fun e w' => e = .returned (.tuple #[.int .i64 (sureV r F xs x b n), .int .i64 (anE r F xs x (inB b 1 1000000) n)]) ∧ Hid (FX T F ta tn tc xs w w')) :=
    Lib.hid (fun W hW => (isure_any r F xs ta tn tc x b n W hW.out.ints htc).mono fun e w' ⟨he, hb⟩ => ⟨he, Lib.hid (hW.out.step hb)⟩)
  have SS : Hid (∀ W, Hid (FX T F ta tn tc xs w W) → Calls Try.prog 26 #[.agg #[.int .i64 F, .slice ta tn tc], .int .i64 r, .int .i64 x, .int .i64 b, .int .i64 n] W fun e w' => e = .returned (.tuple #[.int .i64 (sureV r F xs x b n), .int .i64 (anE r F xs x (inB b 1 1000000) n)]) ∧ Hid (FX T F ta tn tc xs w w')) :=
    Lib.hid (fun W hW => (ssure_any r F xs ta tn tc x b n W hW.out.ints).mono fun e w' ⟨he, hb⟩ => ⟨he, Lib.hid (hW.out.step hb)⟩)
  have WI : Hid (∀ W, Hid (FX T F ta tn tc xs w W) → Calls Try.prog 27 #[.agg #[.int .i64 F, .slice ta tn tc], .int .i64 r, .int .i64 x, .int .i64 b] W fun e w' => e = .returned (.tuple #[.int .i64 (lifeV r F xs x b), .int .i64 (anE r F xs x (inB b 1 1000000) 0)]) ∧ Hid (FX T F ta tn tc xs w w')) :=
    Lib.hid (fun W hW => (ilife_any r F xs ta tn tc x b W hW.out.ints htc).mono fun e w' ⟨he, hb⟩ => ⟨he, Lib.hid (hW.out.step hb)⟩)
  by_cases hM : anE r F xs x (inB b 1 1000000) n = 0
  case neg =>
    obtain ⟨M, hMe⟩ : ∃ M, anE r F xs x (inB b 1 1000000) n = M := ⟨_, rfl⟩
    obtain ⟨X, hX⟩ : ∃ M, termV r F xs x b n = M := ⟨_, rfl⟩
    obtain ⟨Y, hY⟩ : ∃ M, lateV r F xs x b n = M := ⟨_, rfl⟩
    obtain ⟨Z, hZ⟩ : ∃ M, sureV r F xs x b n = M := ⟨_, rfl⟩
    rw [hMe, hX] at TI TS
    rw [hMe, hY] at LI LS
    rw [hMe, hZ] at SI SS
    rw [hMe] at hM
    have hM1 : (M != 0) = true := by simpa using hM
    clear hMe hX hY hZ WI
    go_wp2_with (first
      | (go_at_call 21; refine (TI.out _ HF).mono ?_; rintro e w' ⟨rfl, HF⟩; have k0 := HF.out.c0; have k1 := HF.out.c1)
      | (go_at_call 22; refine (TS.out _ HF).mono ?_; rintro e w' ⟨rfl, HF⟩; have k0 := HF.out.c0; have k1 := HF.out.c1)
      | (go_at_call 23; refine (LI.out _ HF).mono ?_; rintro e w' ⟨rfl, HF⟩; have k0 := HF.out.c0; have k1 := HF.out.c1)
      | (go_at_call 24; refine (LS.out _ HF).mono ?_; rintro e w' ⟨rfl, HF⟩; have k0 := HF.out.c0; have k1 := HF.out.c1)
      | (go_at_call 25; refine (SI.out _ HF).mono ?_; rintro e w' ⟨rfl, HF⟩; have k0 := HF.out.c0; have k1 := HF.out.c1)
      | (go_at_call 26; refine (SS.out _ HF).mono ?_; rintro e w' ⟨rfl, HF⟩; have k0 := HF.out.c0; have k1 := HF.out.c1))
    go_ret
    exact ⟨rfl, HF.out.low⟩
  obtain ⟨h0, ⟨n0, n1⟩, ⟨b0, b1⟩, X, Y, V, Z, hX, hY, hV, hZ, ⟨X0, X1⟩, ⟨Y0, Y1⟩, ⟨V0, V1⟩, ⟨s0, s1⟩, hle, hlb, hYZ⟩ := ann_facts hM
  rw [hM, hX] at TI TS
  rw [hM, hY] at LI LS
  rw [hM, hZ] at SI SS
  rw [h0, hV] at WI
  have q1 : IntKind.i64.wrap (X + Y) = X + Y := IntWalk.i64_in _ (by omega)
  have q2 : IntKind.i64.wrap (X + Y - V) = X + Y - V := IntWalk.i64_in _ (by omega)
  clear h0 hM hX hY hV hZ
  have hmx : X ≤ wrap64 (b * max n 1) := by
    have e : wrap64 (b * max n 1) = b * max n 1 := by
      by_cases hn : 1 ≤ n
      · have hP0 : 0 ≤ b * n := Int.mul_nonneg (by omega) (by omega)
        have hP1 : b * n ≤ 1000000 * 120 := Int.mul_le_mul b1 n1 n0 (by omega)
        rw [Int.max_eq_left hn]; exact IntWalk.wrap64_in _ (by omega)
      · rw [Int.max_eq_right (by omega), Int.mul_one]; exact IntWalk.wrap64_in _ (by omega)
    rw [e]
    by_cases hn : 1 ≤ n
    · rw [Int.max_eq_left hn]; exact hle hn
    · rw [Int.max_eq_right (by omega), Int.mul_one]; exact hlb (by omega)
  have hmy : ¬ wrap64 (b * max n 1) < X := by omega
  have hVX : V ≤ X + Y := by omega
  clear hle hlb
  go_wp2_with (first
    | (go_at_call 21; refine (TI.out _ HF).mono ?_; rintro e w' ⟨rfl, HF⟩; have k0 := HF.out.c0; have k1 := HF.out.c1)
    | (go_at_call 22; refine (TS.out _ HF).mono ?_; rintro e w' ⟨rfl, HF⟩; have k0 := HF.out.c0; have k1 := HF.out.c1)
    | (go_at_call 23; refine (LI.out _ HF).mono ?_; rintro e w' ⟨rfl, HF⟩; have k0 := HF.out.c0; have k1 := HF.out.c1)
    | (go_at_call 24; refine (LS.out _ HF).mono ?_; rintro e w' ⟨rfl, HF⟩; have k0 := HF.out.c0; have k1 := HF.out.c1)
    | (go_at_call 25; refine (SI.out _ HF).mono ?_; rintro e w' ⟨rfl, HF⟩; have k0 := HF.out.c0; have k1 := HF.out.c1)
    | (go_at_call 26; refine (SS.out _ HF).mono ?_; rintro e w' ⟨rfl, HF⟩; have k0 := HF.out.c0; have k1 := HF.out.c1)
    | (go_at_call 27; refine (WI.out _ HF).mono ?_; rintro e w' ⟨rfl, HF⟩; have k0 := HF.out.c0; have k1 := HF.out.c1))
  go_ret
  exact ⟨rfl, HF.out.low⟩

end Go.Proofs.Ytmcagpcldjopjaa

/- AnnuityPrices of the model. -/
namespace Go.Proofs.Ytmcagpcldjopjaa
open Go.ChangeShapes Go.WideShapes Go.ChangeAt Go.RowKit
set_option linter.unusedVariables false
set_option maxRecDepth 100000

/-- append at a step of a region that draws its order -/
theorem step_app {w : World} {ops : Array Oper} {o : Oper} {a : Act} {K : Act → World → Prop} {Q : Exit → Act → World → Prop} {E : Prop} (hgd : o.guard = none) (s x : Operand)
    (ho : o.op = .call { callee := .builtin .append, args := #[s, x], argTypes := #[24, 24] })
    (base : Nat) (v : Value) (xs : List Int) (y : Int) (hs : a.eval s = v) (hown : OwnI base w v xs) (ad : Addr) (hx : a.eval x = .slice (some ad) 1 1) (hc : ∀ j u, [Value.int .i64 y][j]? = some u → w.cell? (ad.add j) = some u)
    (hlen : xs.length ≤ 4096) (hbase : base ≤ w.heap.size)
    (h : ∀ v' w', OwnI base w' v' (xs ++ [y]) → w.grownBy w' v.ownBlock → (v'.ownBlock = v.ownBlock ∨ v'.ownBlock = some w.heap.size) → K (a.put o.dst v') w') :
    if Region.wanted o (yielded ops a.tmps) = true then Oper.wp Try.prog o a w K Q else E := by
  obtain ⟨i0, hi, hz0, hz1, hz2⟩ := info_parts infoI
  have hm : maxLen = maxLen := rfl
  unfold maxLen at hm
  obtain ⟨v', w', hr, h2, h3, h4⟩ := run_append_own (P := Try.prog) w base 24 o.type 2 i0 (.int .i64 0) 1 8 Try.underlying24 hi hz0 hz1 hz2 rfl (by decide) v xs.length (xs.map (Value.int .i64)) hown ad 1 1 [.int .i64 y] rfl hc (by intro u hu; simp at hu; subst hu; rfl) (by unfold maxLen; omega) (by omega) hbase
  have h5 := append_where ad y hown hc hlen hbase v' w' o.type hr
  have h6 : OwnI base w' v' (xs ++ [y]) := by
    unfold OwnI
    rw [List.length_append, List.length_singleton, List.map_append]
    exact h2
  have hw : Region.wanted o (yielded ops a.tmps) = true := by simp [Region.wanted, hgd]
  rw [if_pos hw]
  unfold Oper.wp execOp
  simp only [ho, resolve, invoke, builtin, Sem.run_bind, Sem.run_pure, Result.andThen_ok, List.map_toArray, List.map_cons, List.map_nil, hs, hx, hr]
  exact h v' w' h6 h3 h5

/-- are all columns D not 0 while lives are left? -/
def apB (r : Int) (xs : List Int) : Bool := (List.range (xs.length - 1)).all fun k => decide (cD r xs k ≠ 0)

def apE (r f : Int) (xs : List Int) (b : Int) : Int := if anE r f xs f (inB b 1 1000000) 0 = 0 then (if apB r xs = true then 0 else 5) else anE r f xs f (inB b 1 1000000) 0

def apF (r : Int) (xs : List Int) (b : Int) (k : Nat) : Int := upV b (cN r xs k) (cD r xs k)

def apY (r f : Int) (xs : List Int) (b : Int) : List Int := if apE r f xs b = 0 then colL (apF r xs b) (xs.length - 1) else []

theorem apB_no {r : Int} {xs : List Int} {j : Nat} (hj : j < xs.length - 1) (h : cD r xs j = 0) : apB r xs = false := by
  unfold apB
  rw [List.all_eq_false]
  exact ⟨j, by simpa using hj, by simp [h]⟩

theorem apB_yes {r : Int} {xs : List Int} (h : ∀ k, k < xs.length - 1 → cD r xs k ≠ 0) : apB r xs = true := by
  unfold apB
  rw [List.all_eq_true]
  intro k hk
  simpa using h k (by simpa using hk)

theorem apB_iff {r : Int} {xs : List Int} : apB r xs = true ↔ ∀ k, k < xs.length - 1 → cD r xs k ≠ 0 := by
  refine ⟨fun h k hk e => ?_, apB_yes⟩
  rw [apB_no hk e] at h; cases h

set_option maxHeartbeats 8000000 in
theorem sap_any (r f : Int) (xs : List Int) (a : Option Addr) (l c : Nat) (b : Int) (w : World) (h : Ints w a l xs) :
    Calls Try.prog 34 #[.agg #[.int .i64 f, .slice a l c], .int .i64 r, .int .i64 b] w (LsPost (apY r f xs b) (apE r f xs b) w) := by
  have H := Lib.hid h
  have HL := Lib.hid h.len
  have CA : Hid (∀ W, Hid (Below w.heap.size w W) → Calls Try.prog 60 #[.agg #[.int .i64 f, .slice a l c], .int .i64 r, .int .i64 f, .bool (inB b 1 1000000), .int .i64 0] W fun e w' => e = .returned (.int .i64 (anE r f xs f (inB b 1 1000000) 0)) ∧ Below W.heap.size W w') :=
    Lib.hid (fun W hW => ancode_any r f xs a l c f _ 0 W (H.out.on hW.out))
  clear h
  have HY : Hid (apY r f xs b = if apE r f xs b = 0 then colL (apF r xs b) (xs.length - 1) else []) := Lib.hid rfl
  have HEE : Hid (apE r f xs b = if anE r f xs f (inB b 1 1000000) 0 = 0 then (if apB r xs = true then 0 else 5) else anE r f xs f (inB b 1 1000000) 0) := Lib.hid rfl
  obtain ⟨Y, hY⟩ : ∃ y_, apY r f xs b = y_ := ⟨_, rfl⟩
  obtain ⟨EE, hEE⟩ : ∃ y_, apE r f xs b = y_ := ⟨_, rfl⟩
  obtain ⟨E, hE⟩ : ∃ E, anE r f xs f (inB b 1 1000000) 0 = E := ⟨_, rfl⟩
  rw [hY, hEE] at HY
  rw [hEE, hE] at HEE
  rw [hE] at CA
  rw [hY, hEE]
  have HE := Lib.hid hE
  clear hE hY hEE
  by_cases hz : E = 0
  · subst hz
    obtain ⟨hc, hb, -, -, hd⟩ := anE_iff.1 HE.out
    obtain ⟨ht, ⟨r0, r1⟩, x0, x1⟩ := coE_iff.1 hc
    obtain ⟨f0, f1⟩ := ht.1
    obtain ⟨b0, b1⟩ := (inB_iff _ _ _).1 hb
    obtain ⟨l0, l1⟩ := ht.2.1
    have hlf := ht.2.2.1
    rw [HL.out] at l0 l1 hlf
    have HT := Lib.hid ht
    clear ht hc hb hd HE
    go_enter Try.func34, Try.ntmps34
    go_wp2_with fail
    go_region_held3 (fun w' => w'.cell? ⟨w.heap.size, 0, none⟩ = some (.int .i64 f) ∧ w'.cell? ⟨w.heap.size, 1, none⟩ = some (.slice a l c) ∧ Hid (Below w.heap.size w w'))
      (first
        | (go_split_ands; exact ⟨by with_reducible assumption, by with_reducible assumption, by with_reducible assumption⟩)
        | (go_split_ands; exact ⟨by go_simp, by go_simp, Lib.hid (Below.drew (box_b _ _))⟩)
        | (go_split_ands; exact ⟨by go_simp, by go_simp, Lib.hid (box_b _ _)⟩)
        | (go_split_ands; exact ⟨keep2 hb (by with_reducible assumption), keep2 hb (by with_reducible assumption), Lib.hid (Below.trans (Hid.out (by with_reducible assumption)) (Below.mono hb (Below.size (Hid.out (by with_reducible assumption)))))⟩))
      (first
        | (go_split_ands; go_at_call 61; ((with_reducible refine (samt_any _ _).mono ?_); rintro e w' ⟨rfl, rfl⟩))
        | (go_split_ands; go_at_call 60; ((with_reducible refine (CA.out _ (by with_reducible assumption)).mono ?_); rintro e w1 ⟨rfl, hb⟩; have hsz : w.heap.size < w1.heap.size := by (have := hb.size; simp at this; omega))))
    go_split_ands
    have hc0 : w1.cell? ⟨w.heap.size, 0, none⟩ = some (.int .i64 f) := by with_reducible assumption
    have hc1 : w1.cell? ⟨w.heap.size, 1, none⟩ = some (.slice a l c) := by with_reducible assumption
    have HB : Hid (Below w.heap.size w w1) := by with_reducible assumption
    have hown := ownI_new w1
    have hd0 : (w1.alloc (.cells #[] 2)).cell? ⟨w.heap.size, 0, none⟩ = some (.int .i64 f) := keep2 (box_b w1 _) hc0
    have hd1 : (w1.alloc (.cells #[] 2)).cell? ⟨w.heap.size, 1, none⟩ = some (.slice a l c) := keep2 (box_b w1 _) hc1
    have HB1 : Hid (Below w.heap.size w (w1.alloc (.cells #[] 2))) := Lib.hid (HB.out.alloc (by omega) _)
    have hs1 : w1.heap.size ≤ (w1.alloc (.cells #[] 2)).heap.size := by simp
    clear hb CA
    go_wp2_with fail
    clear hc0 hc1 HB
    go_loopw [9, 10] (fun v i wr => ∃ j : Nat, (j : Int) ≤ l - 1 ∧ i = .int .i64 (f + j) ∧ OwnI w1.heap.size wr v (colL (apF r xs b) j) ∧ wr.cell? ⟨w.heap.size, 0, none⟩ = some (.int .i64 f) ∧ wr.cell? ⟨w.heap.size, 1, none⟩ = some (.slice a l c) ∧ Hid (Below w.heap.size w wr) ∧ w1.heap.size ≤ wr.heap.size ∧ Hid (∀ k, k < j → cD r xs k ≠ 0)) (fun _ i _ => (f + l - intOf i).toNat)
    case atStart => exact ⟨0, by omega, by go_num, hown, hd0, hd1, HB1, hs1, Lib.hid (fun k hk => by omega)⟩
    case round =>
      clear hown hd0 hd1 HB1 hs1
      obtain ⟨j, hj, rfl, hown, hc0, hc1, HB, hwr, HZ⟩ := hrel
      by_cases hlt : f + (j : Int) < f + l - 1
      · go_wp2_with fail
        with_reducible refine (end_spec f xs _ _ _ _ (by omega) f0 (by omega)).mono ?_
        rintro e w2 ⟨rfl, hb⟩
        have hd0 := keep2 hb hc0
        have hd1 := keep2 hb hc1
        have HB2 := Lib.hid (HB.out.trans (hb.mono HB.out.size))
        have hown2 := hown.on hb
        have hw2 : w1.heap.size ≤ w2.heap.size := Nat.le_trans hwr hb.size
        clear hb hc0 hc1 HB hown hwr
        have C2 : Hid (∀ W, Hid (Below w.heap.size w W) → Calls Try.prog 64 #[.agg #[.int .i64 f, .slice a l c], .int .i64 r, .int .i64 (f + j)] W fun e w' => e = .returned (.int .i64 (cD r xs j)) ∧ Below W.heap.size W w') :=
          Lib.hid (fun W hW => by have := sD_any r f xs a l c (f + j) W (H.out.on hW.out) HT.out r0 r1 (by omega) (by omega); rw [show (f + (j : Int) - f).toNat = j by omega] at this; exact this)
        have C1 : Hid (∀ W, Hid (Below w.heap.size w W) → Calls Try.prog 63 #[.agg #[.int .i64 f, .slice a l c], .int .i64 r, .int .i64 (f + j)] W fun e w' => e = .returned (.int .i64 (cN r xs j)) ∧ Below W.heap.size W w') :=
          Lib.hid (fun W hW => by have := sN_any r f xs a l c (f + j) W (H.out.on hW.out) HT.out r0 r1 (by omega) (by omega); rw [show (f + (j : Int) - f).toNat = j by omega] at this; exact this)
        have hq := HT.out.quot r r0 j (cN r xs j) b (HT.out.cN_bd r r0 _).1 (Int.le_refl _)
        have hn0 := (HT.out.cN_bd r r0 j).1
        have HF : Hid (apF r xs b j = upV b (cN r xs j) (cD r xs j)) := Lib.hid rfl
        have HD : Hid (cD r xs j = cD r xs j) := Lib.hid rfl
        have HLT : Hid (j < xs.length - 1) := Lib.hid (by rw [HL.out]; omega)
        obtain ⟨D, hD⟩ : ∃ y_, cD r xs j = y_ := ⟨_, rfl⟩
        have HDD := Lib.hid hD
        obtain ⟨N, hN⟩ : ∃ y_, cN r xs j = y_ := ⟨_, rfl⟩
        rw [hD] at C2 hq HF
        rw [hN] at C1 hq hn0 HF
        clear hD hN HD
        by_cases hz : D = 0
        · subst hz
          have HE5 : Hid (EE = 5) := Lib.hid (by rw [HEE.out, apB_no HLT.out HDD.out]; simp)
          have HY5 : Hid (Y = []) := Lib.hid (by rw [HY.out, HE5.out]; rfl)
          clear hq C1
          go_wp2_with fail
          with_reducible refine (C2.out _ HB2).mono ?_
          rintro e w3 ⟨rfl, hb⟩
          have HB3 := Lib.hid (HB2.out.trans (hb.mono HB2.out.size))
          clear hb
          go_wp2_with fail
          go_ret2
          exact ls_nil HB3.out HE5.out HY5.out
        · have hz2 : (D == 0) = false := by simp [hz]
          obtain ⟨q1, q2, q3, q4⟩ := hq hz (by omega) b1
          have CU := Lib.hid (fun W => sup_any b N D W (by omega) (by omega) hn0 q1 q2 q3 (by omega))
          have HZ2 : Hid (∀ k, k < j + 1 → cD r xs k ≠ 0) := Lib.hid (fun k hk => by
            by_cases e : k = j
            · subst e; rw [HDD.out]; exact hz
            · exact HZ.out k (by omega))
          obtain ⟨U, hU⟩ : ∃ y_, upV b N D = y_ := ⟨_, rfl⟩
          rw [hU] at CU HF
          have HYY : Hid (colL (apF r xs b) (j + 1) = colL (apF r xs b) j ++ [U]) := Lib.hid (by rw [colL_snoc, HF.out])
          have HL1 : Hid ((colL (apF r xs b) j).length ≤ 4096) := Lib.hid (by rw [colL_len]; omega)
          obtain ⟨zs, hzs⟩ : ∃ zs, colL (apF r xs b) j = zs := ⟨_, rfl⟩
          rw [hzs] at hown2 HYY HL1
          clear hzs hU hq hz q1 q2 q3 q4 HZ
          go_wp2_with fail
          with_reducible refine (C2.out _ HB2).mono ?_
          rintro e w3 ⟨rfl, hb⟩
          have hc0 := keep2 hb hd0
          have hc1 := keep2 hb hd1
          have HB3 := Lib.hid (HB2.out.trans (hb.mono HB2.out.size))
          have hown := hown2.on hb
          have hw3 : w1.heap.size ≤ w3.heap.size := Nat.le_trans hw2 hb.size
          clear hb hd0 hd1 HB2 hown2 hw2
          go_wp2_with fail
          have hown : OwnI w1.heap.size w3.drew _ zs := hown
          go_region_held3 (fun w' => w'.cell? ⟨w.heap.size, 0, none⟩ = some (.int .i64 f) ∧ w'.cell? ⟨w.heap.size, 1, none⟩ = some (.slice a l c) ∧ Hid (Below w.heap.size w w') ∧ w1.heap.size ≤ w'.heap.size)
            (first
              | (go_split_ands; exact ⟨by with_reducible assumption, by with_reducible assumption, by with_reducible assumption, by with_reducible assumption⟩)
              | (go_split_ands; exact ⟨(hb9.cell (p := ⟨w.heap.size, 0, none⟩) hsz).trans (by with_reducible assumption), (hb9.cell (p := ⟨w.heap.size, 1, none⟩) hsz).trans (by with_reducible assumption), Lib.hid (Below.trans (Hid.out (by with_reducible assumption)) (Below.mono hb9 (by omega))), Nat.le_trans (by with_reducible assumption) hb9.size⟩)
              | (go_split_ands; exact ⟨keep2 hb (by with_reducible assumption), keep2 hb (by with_reducible assumption), Lib.hid (Below.trans (Hid.out (by with_reducible assumption)) (Below.mono hb (Below.size (Hid.out (by with_reducible assumption))))), Nat.le_trans (by with_reducible assumption) hb.size⟩)
              | (go_split_ands; exact ⟨cell_drew hc0, cell_drew hc1, Lib.hid (Below.drew HB3.out), hw3⟩)
              | (go_split_ands; exact ⟨keep2 (box_b _ _) (by with_reducible assumption), keep2 (box_b _ _) (by with_reducible assumption), Lib.hid (Below.alloc (Hid.out (by with_reducible assumption)) (Below.size (Hid.out (by with_reducible assumption))) _), (by (rw [World.size_alloc]; exact Nat.le_succ_of_le (by with_reducible assumption)))⟩)
              | fail)
            (first
              | (go_split_ands; go_at_call 63; ((with_reducible refine (C1.out _ (by with_reducible assumption)).mono ?_); rintro e w' ⟨rfl, hb⟩; replace hown := OwnI.on hown hb))
              | (go_split_ands; go_at_call 64; ((with_reducible refine (C2.out _ (by with_reducible assumption)).mono ?_); rintro e w' ⟨rfl, hb⟩; replace hown := OwnI.on hown hb))
              | (go_split_ands; go_at_call 62; ((with_reducible refine (CU.out _).mono ?_); rintro e w' ⟨rfl, rfl⟩))
              | (go_split_ands; ((refine step_app (by rfl) _ _ (by rfl) w1.heap.size _ zs U (by rfl) (hown.same (fun k hk hl => Below.heap_alloc _ _ _ hl)) _ (by rfl) (one_newC _ U) HL1.out (by with_reducible assumption) ?_); intro v' w5 hown' hgrow hw; have hb9 := app_below hown (by with_reducible assumption) hgrow))
              | fail)
          · go_split_ands
            rw [← HYY.out] at hown'
            have hc0 : w5.cell? ⟨w.heap.size, 0, none⟩ = some (.int .i64 f) := by with_reducible assumption
            have hc1 : w5.cell? ⟨w.heap.size, 1, none⟩ = some (.slice a l c) := by with_reducible assumption
            have HB5 : Hid (Below w.heap.size w w5) := by with_reducible assumption
            have hw5 : w1.heap.size ≤ w5.heap.size := by with_reducible assumption
            go_wp2_with fail
            go_roundw
            case rel => exact ⟨j + 1, by omega, by go_num, hown', hc0, hc1, HB5, hw5, HZ2⟩
            case measure => simp [intOf]; omega
      · go_wp2_with fail
        with_reducible refine (end_spec f xs _ _ _ _ (by omega) f0 (by omega)).mono ?_
        rintro e w2 ⟨rfl, hb⟩
        have HB2 := Lib.hid (HB.out.trans (hb.mono HB.out.size))
        have hown2 := hown.on hb
        clear hb hc0 hc1 HB hown
        go_wp2_with fail
        go_ret2
        have ej : j = xs.length - 1 := by have := HL.out; omega
        have HE0 : EE = 0 := by rw [HEE.out, apB_yes (by rw [← ej]; exact HZ.out)]; simp
        exact ls_cond hown2 (by rw [colL_len]; omega) HB2.out (by omega) HE0 (by rw [HY.out, HE0, ej]; rfl)
  · have hne : (E != 0) = true := by simp [hz]
    have HEN : Hid (EE = E) := Lib.hid (by rw [HEE.out, if_neg hz])
    have HYN : Hid (Y = []) := Lib.hid (by rw [HY.out, HEN.out, if_neg hz])
    clear hz HY HE HEE
    go_enter Try.func34, Try.ntmps34
    go_wp2_with fail
    go_region_held3 (fun w' => w'.cell? ⟨w.heap.size, 0, none⟩ = some (.int .i64 f) ∧ w'.cell? ⟨w.heap.size, 1, none⟩ = some (.slice a l c) ∧ Hid (Below w.heap.size w w'))
      (first
        | (go_split_ands; exact ⟨by with_reducible assumption, by with_reducible assumption, by with_reducible assumption⟩)
        | (go_split_ands; exact ⟨by go_simp, by go_simp, Lib.hid (Below.drew (box_b _ _))⟩)
        | (go_split_ands; exact ⟨by go_simp, by go_simp, Lib.hid (box_b _ _)⟩)
        | (go_split_ands; exact ⟨keep2 hb (by with_reducible assumption), keep2 hb (by with_reducible assumption), Lib.hid (Below.trans (Hid.out (by with_reducible assumption)) (Below.mono hb (Below.size (Hid.out (by with_reducible assumption)))))⟩))
      (first
        | (go_split_ands; go_at_call 61; ((with_reducible refine (samt_any _ _).mono ?_); rintro e w' ⟨rfl, rfl⟩))
        | (go_split_ands; go_at_call 60; ((with_reducible refine (CA.out _ (by with_reducible assumption)).mono ?_); rintro e w1 ⟨rfl, hb⟩)))
    all_goals
      go_split_ands
      go_wp2_with fail
      go_ret2
      exact ls_nil (Hid.out (by with_reducible assumption)) HEN.out HYN.out

end Go.Proofs.Ytmcagpcldjopjaa

/- AnnuityPrices of the program. -/
namespace Go.Proofs.Ytmcagpcldjopjaa
open Go.ChangeShapes Go.WideShapes Go.ChangeAt Go.RowKit
set_option linter.unusedVariables false
set_option maxRecDepth 100000

/-- the code but for the columns D -/
theorem ap_ak (r f : Int) (xs : List Int) (b : Int) : apE r f xs b = if akE r f xs f (inB b 1 1000000) 0 = 0 then (if apB r xs = true then 0 else 5) else akE r f xs f (inB b 1 1000000) 0 := by
  unfold apE
  have h := anE_ak r f xs f (inB b 1 1000000) 0
  by_cases h1 : akE r f xs f (inB b 1 1000000) 0 = 0
  · rw [if_pos h1] at h
    rw [if_pos h1]
    by_cases h2 : cD r xs (f - f).toNat = 0
    · rw [if_pos h2] at h
      rw [h, if_neg (by omega)]
      obtain ⟨hc, _⟩ := akE_iff.1 h1
      obtain ⟨ht, _⟩ := coE_iff.1 hc
      rw [apB_no (j := 0) (by have := ht.2.1.1; omega) (by rw [show (f - f).toNat = 0 by omega] at h2; exact h2)]
      simp
    · rw [if_neg h2] at h
      rw [h, if_pos rfl]
  · rw [if_neg h1] at h
    rw [h, if_neg h1]

set_option maxHeartbeats 4000000 in
theorem iap_any (r f : Int) (xs : List Int) (a : Option Addr) (l c : Nat) (b : Int) (w : World) (h : Ints w a l xs) (hlc : l ≤ c) :
    Calls Try.prog 33 #[.agg #[.int .i64 f, .slice a l c], .int .i64 r, .int .i64 b] w (LsPost (apY r f xs b) (apE r f xs b) w) := by
  have H := Lib.hid h
  have HL := Lib.hid h.len
  have CK : Hid (∀ W, Hid (Below w.heap.size w W) → Calls Try.prog 76 #[.agg #[.int .i64 f, .slice a l c], .int .i64 r, .int .i64 f, .int .i64 b, .int .i64 0] W fun e w' => e = .returned (.int .i64 (akE r f xs f (inB b 1 1000000) 0)) ∧ Below W.heap.size W w') :=
    Lib.hid (fun W hW => ackeck_any r f xs a l c f b 0 W (H.out.on hW.out) hlc)
  clear h
  have HY : Hid (apY r f xs b = if apE r f xs b = 0 then colL (apF r xs b) (xs.length - 1) else []) := Lib.hid rfl
  have HEE := Lib.hid (ap_ak r f xs b)
  obtain ⟨Y, hY⟩ : ∃ y_, apY r f xs b = y_ := ⟨_, rfl⟩
  obtain ⟨EE, hEE⟩ : ∃ y_, apE r f xs b = y_ := ⟨_, rfl⟩
  obtain ⟨E, hE⟩ : ∃ E, akE r f xs f (inB b 1 1000000) 0 = E := ⟨_, rfl⟩
  rw [hY, hEE] at HY
  rw [hEE, hE] at HEE
  rw [hE] at CK
  rw [hY, hEE]
  have HE := Lib.hid hE
  clear hE hY hEE
  by_cases hz : E = 0
  · subst hz
    obtain ⟨hc, hb, -, -⟩ := akE_iff.1 HE.out
    obtain ⟨ht, ⟨r0, r1⟩, x0, x1⟩ := coE_iff.1 hc
    obtain ⟨f0, f1⟩ := ht.1
    obtain ⟨b0, b1⟩ := (inB_iff _ _ _).1 hb
    obtain ⟨l0, l1⟩ := ht.2.1
    have hlf := ht.2.2.1
    rw [HL.out] at l0 l1 hlf
    have HT := Lib.hid ht
    clear ht hc hb HE
    go_enter Try.func33, Try.ntmps33
    go_wp2_with fail
    with_reducible refine (CK.out _ (Lib.hid (box_b _ _))).mono ?_
    rintro e w1 ⟨rfl, hb⟩
    obtain ⟨hB, hc0, hc1⟩ := box2 hb
    have HB := Lib.hid hB
    clear hB hb
    go_wp2_with fail
    with_reducible refine (co_any r f xs a l c _ (H.out.on HB.out) HT.out r0 r1).mono ?_
    rintro e w2 ⟨R, G, rfl, hR, hG, hGs, hb⟩
    have HB2 := Lib.hid (HB.out.trans (hb.mono HB.out.size))
    have HC : Hid (Cols w2 R r f xs (.slice a l c)) := Lib.hid ⟨G, hG, hGs⟩
    have hd0 := keep2 hb hc0
    have hd1 := keep2 hb hc1
    clear hG hGs hb hc0 hc1 HB hR
    go_wp2_with fail
    with_reducible refine (prices_any R _).mono ?_
    rintro e w3 ⟨B, cb, p0, p1, p2, rfl, hpm, hb⟩
    have HB3 := Lib.hid (HB2.out.trans (hb.mono HB2.out.size))
    have HC3 := Lib.hid (HC.out.on hb)
    have hc0 := keep2 hb hd0
    have hc1 := keep2 hb hd1
    obtain ⟨ns, hget, hns⟩ := hpm.get 0 (.inl rfl)
    have HP : Hid (∀ j : Nat, (j : Int) < l - 1 → ∀ W, Hid (Below w3.heap.size w3 W) → Calls Try.prog 97 #[.int .i64 (f + j), .int .i64 b, .int .i64 0, .pointer (some ⟨cb, 0, none⟩), .pointer (some ⟨ns, 0, none⟩)] W (IIPost (prV (cD r xs j) b (cN r xs j)) (prE (cD r xs j)) W)) := Lib.hid (by
      intro j hj W hW
      have ht := HT.out
      obtain ⟨u0, u1⟩ := numU_bd ht r r0 (f + j) 0 0 (by omega) (by omega)
      have h1 : Cap W cb R := keep2 hW.out hpm.cap
      have h2 := keep2 hW.out hns
      have h3 := HC3.out.on hW.out
      have := price_any (fnS 0) (fnS_enter 0) r f xs _ cb ns R (f + j) b 0 (numU r f xs (f + j) 0 0) W h1 h2 h3 ht r0 f0 (by omega) (by omega) b0 b1 u0 u1 (fun W2 hW2 => num_any 0 r f xs _ cb R (f + j) 0 W2 (keep2 hW2 h1) (h3.on hW2) ht r0 (by omega) (by omega) (by omega) (by omega))
      rw [show numU r f xs (f + j) 0 0 = cN r xs (f + j - f).toNat from rfl, show (f + (j : Int) - f).toNat = j by omega] at this
      exact this)
    have hlt0 : w.heap.size < w3.heap.size := block_lt hc0
    have HS3 := Lib.hid hlt0
    unfold clo at hget
    have hown := ownI_new w3
    have HW0 : Hid (Below w3.heap.size w3 (w3.alloc (.cells #[] 2))) := Lib.hid (box_b _ _)
    have hd0 : (w3.alloc (.cells #[] 2)).cell? ⟨w.heap.size, 0, none⟩ = some (.int .i64 f) := keep2 HW0.out hc0
    have hd1 : (w3.alloc (.cells #[] 2)).cell? ⟨w.heap.size, 1, none⟩ = some (.slice a l c) := keep2 HW0.out hc1
    have HC0 := Lib.hid hc0
    have HC1 := Lib.hid hc1
    clear hb hpm hns HC HB2
    go_wp2_with fail
    clear hget hc0 hc1 hd0 hd1
    go_loopw [10, 11] (fun v i wr => ∃ j : Nat, (j : Int) ≤ l - 1 ∧ i = .int .i64 (f + j) ∧ OwnI w3.heap.size wr v (colL (apF r xs b) j) ∧ Hid (Below w3.heap.size w3 wr) ∧ Hid (∀ k, k < j → cD r xs k ≠ 0)) (fun _ i _ => (f + l - intOf i).toNat)
    case atStart => exact ⟨0, by omega, by go_num, hown, HW0, Lib.hid (fun k hk => by omega)⟩
    case round =>
      clear hown HW0
      obtain ⟨j, hj, rfl, hown, HW, HZ⟩ := hrel
      have hc0 := (HW.out.cell (p := ⟨w.heap.size, 0, none⟩) HS3.out).trans HC0.out
      have hc1 := (HW.out.cell (p := ⟨w.heap.size, 1, none⟩) HS3.out).trans HC1.out
      have hwr := HW.out.size
      by_cases hlt : f + (j : Int) < f + l - 1
      · go_wp2_with fail
        with_reducible refine (end_any f xs _ _ _ _ (by omega) f0 (by omega)).mono ?_
        rintro e w5 ⟨rfl, hb⟩
        have HW5 := Lib.hid (HW.out.trans (hb.mono HW.out.size))
        have hown2 := hown.on hb
        clear hb hc0 hc1 HW hown hwr
        have CP := Lib.hid (HP.out j (by omega) w5 HW5)
        unfold IIPost at CP
        have HF : Hid (apF r xs b j = upV b (cN r xs j) (cD r xs j)) := Lib.hid rfl
        have HLT : Hid (j < xs.length - 1) := Lib.hid (by rw [HL.out]; omega)
        obtain ⟨D, hD⟩ : ∃ y_, cD r xs j = y_ := ⟨_, rfl⟩
        have HDD := Lib.hid hD
        obtain ⟨N, hN⟩ : ∃ y_, cN r xs j = y_ := ⟨_, rfl⟩
        rw [hD] at CP HF
        rw [hN] at CP HF
        clear hD hN
        by_cases hz : D = 0
        · subst hz
          have HE5 : Hid (EE = 5) := Lib.hid (by rw [HEE.out, apB_no HLT.out HDD.out]; simp)
          have HY5 : Hid (Y = []) := Lib.hid (by rw [HY.out, HE5.out]; rfl)
          rw [show prV 0 b N = 0 from rfl, show prE 0 = 5 from rfl] at CP
          go_wp2_with fail
          with_reducible refine CP.out.mono ?_
          rintro e w6 ⟨rfl, hb⟩
          have HW6 := Lib.hid (HW5.out.trans (hb.mono HW5.out.size))
          clear hb
          go_wp2_with fail
          go_ret2
          exact ls_nil (HB3.out.trans (HW6.out.mono HB3.out.size)) HE5.out HY5.out
        · have HZ2 : Hid (∀ k, k < j + 1 → cD r xs k ≠ 0) := Lib.hid (fun k hk => by
            by_cases e : k = j
            · subst e; rw [HDD.out]; exact hz
            · exact HZ.out k (by omega))
          rw [show prV D b N = upV b N D by unfold prV; rw [if_neg hz], show prE D = 0 by unfold prE; rw [if_neg hz]] at CP
          obtain ⟨U, hU⟩ : ∃ y_, upV b N D = y_ := ⟨_, rfl⟩
          rw [hU] at CP HF
          have HYY : Hid (colL (apF r xs b) (j + 1) = colL (apF r xs b) j ++ [U]) := Lib.hid (by rw [colL_snoc, HF.out])
          have HL1 : Hid ((colL (apF r xs b) j).length ≤ 4096) := Lib.hid (by rw [colL_len]; omega)
          obtain ⟨zs, hzs⟩ : ∃ zs, colL (apF r xs b) j = zs := ⟨_, rfl⟩
          rw [hzs] at hown2 HYY HL1
          clear hzs hU hz HZ
          go_wp2_with fail
          with_reducible refine CP.out.mono ?_
          rintro e w6 ⟨rfl, hb⟩
          have HW6 := Lib.hid (HW5.out.trans (hb.mono HW5.out.size))
          have hown := hown2.on hb
          have hw6 := HW6.out.size
          clear hb HW5 hown2 CP
          go_wp2_with (at_builtin; refine wpList_app rfl _ _ rfl w3.heap.size _ zs U rfl (hown.same (fun k hk hl => Below.heap_alloc _ _ _ hl)) ⟨w6.heap.size, 0, none⟩ rfl (one_newC w6 U) HL1.out (by simp; omega) ?_)
          intro v' w7 hown' hgrow hw
          have hb := app_below hown hw6 hgrow
          have HW7 := Lib.hid (HW6.out.trans hb)
          rw [← HYY.out] at hown'
          clear hgrow hown hw hb HW6
          go_wp2_with fail
          go_roundw
          case rel => exact ⟨j + 1, by omega, by go_num, hown', HW7, HZ2⟩
          case measure => simp [intOf]; omega
      · go_wp2_with fail
        with_reducible refine (end_any f xs _ _ _ _ (by omega) f0 (by omega)).mono ?_
        rintro e w5 ⟨rfl, hb⟩
        have HW5 := Lib.hid (HW.out.trans (hb.mono HW.out.size))
        have hown2 := hown.on hb
        clear hb hc0 hc1 HW hown
        go_wp2_with fail
        go_ret2
        have ej : j = xs.length - 1 := by have := HL.out; omega
        have HE0 : EE = 0 := by rw [HEE.out, apB_yes (by rw [← ej]; exact HZ.out)]; simp
        exact ls_cond hown2 (by rw [colL_len]; omega) (HB3.out.trans (HW5.out.mono HB3.out.size)) HB3.out.size HE0 (by rw [HY.out, HE0, ej]; rfl)
  · have hne : (E != 0) = true := by simp [hz]
    have HEN : Hid (EE = E) := Lib.hid (by rw [HEE.out, if_neg hz])
    have HYN : Hid (Y = []) := Lib.hid (by rw [HY.out, HEN.out, if_neg hz])
    clear hz HY HE HEE
    go_enter Try.func33, Try.ntmps33
    go_wp2_with fail
    with_reducible refine (CK.out _ (Lib.hid (box_b _ _))).mono ?_
    rintro e w1 ⟨rfl, hb⟩
    obtain ⟨hB, hc0, hc1⟩ := box2 hb
    have HB := Lib.hid hB
    clear hB hb
    go_wp2_with fail
    go_ret2
    exact ls_nil HB.out HEN.out HYN.out

end Go.Proofs.Ytmcagpcldjopjaa

/- The laws' sum of a list. -/
namespace Go.Proofs.Ytmcagpcldjopjaa
open Go.ChangeShapes Go.WideShapes Go.ChangeAt Go.RowKit
set_option linter.unusedVariables false

end Go.Proofs.Ytmcagpcldjopjaa

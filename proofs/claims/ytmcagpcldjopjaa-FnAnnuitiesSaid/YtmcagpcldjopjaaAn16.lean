/- Merged: AnnF. -/
import Derived.Test.YtmcagpcldjopjaaAn8
import Derived.Test.YtmcagpcldjopjaaAn15

/- The law on annuities: payments for some years and those behind them. -/
namespace Go.Proofs.Ytmcagpcldjopjaa
open Go.ChangeShapes Go.WideShapes Go.ChangeAt Go.RowKit
set_option linter.unusedVariables false

/-- in the midst of a law on a table: T is its box -/
structure FX (T : Nat) (F : Int) (ta : Option Addr) (tn tc : Nat) (xs : List Int) (w w' : World) : Prop where
  low : Below w.heap.size w w'
  c0 : w'.cell? ⟨T, 0, none⟩ = some (.int .i64 F)
  c1 : w'.cell? ⟨T, 1, none⟩ = some (.slice ta tn tc)
  ints : Ints w' ta tn xs

theorem FX.step {T : Nat} {F : Int} {ta : Option Addr} {tn tc : Nat} {xs : List Int} {w w1 w2 : World} (h : FX T F ta tn tc xs w w1) (hb : Below w1.heap.size w1 w2) : FX T F ta tn tc xs w w2 :=
  ⟨h.low.trans (hb.mono h.low.size), keep2 hb h.c0, keep2 hb h.c1, h.ints.on hb⟩

/-- rounded up: the least number that is enough -/
theorem upV_ceil (a b c : Int) (hc : 1 ≤ c) : a * b ≤ upV a b c * c ∧ upV a b c * c < a * b + c := by
  have h := Int.mul_ediv_add_emod (a * b) c
  have r0 := Int.emod_nonneg (a * b) (show c ≠ 0 by omega)
  have r1 := Int.emod_lt_of_pos (a * b) (show 0 < c by omega)
  rw [Int.mul_comm c] at h
  unfold upV
  obtain ⟨q, hq⟩ : ∃ y_, a * b / c = y_ := ⟨_, rfl⟩
  obtain ⟨r, hr⟩ : ∃ y_, a * b % c = y_ := ⟨_, rfl⟩
  obtain ⟨p, hp⟩ : ∃ y_, a * b = y_ := ⟨_, rfl⟩
  rw [hq, hr] at h ⊢
  rw [hr] at r0 r1
  rw [hp] at h ⊢
  rw [Int.add_mul]
  obtain ⟨t, ht⟩ : ∃ y_, q * c = y_ := ⟨_, rfl⟩
  rw [ht] at h ⊢
  by_cases hz : 0 < r
  · rw [if_pos hz]; omega
  · rw [if_neg hz]; omega

/-- two parts cost together what the whole costs, but for one -/
theorem up_parts (b U V c : Int) (hc : 1 ≤ c) : 0 ≤ upV b U c + upV b V c - upV b (U + V) c ∧ upV b U c + upV b V c - upV b (U + V) c ≤ 1 := by
  obtain ⟨a1, a2⟩ := upV_ceil b U c hc
  obtain ⟨b1, b2⟩ := upV_ceil b V c hc
  obtain ⟨c1, c2⟩ := upV_ceil b (U + V) c hc
  rw [Int.mul_add] at c1 c2
  obtain ⟨s, hs⟩ : ∃ s, upV b U c + upV b V c - upV b (U + V) c = s := ⟨_, rfl⟩
  have e : s * c = upV b U c * c + upV b V c * c - upV b (U + V) c * c := by rw [← hs, Int.sub_mul, Int.add_mul]
  rw [hs]
  have h1 : (-1) * c < s * c := by omega
  have h2 : s * c < 2 * c := by omega
  have h3 := Int.lt_of_mul_lt_mul_right h1 (by omega)
  have h4 := Int.lt_of_mul_lt_mul_right h2 (by omega)
  omega

theorem LTab.cN_diff {f : Int} {xs : List Int} (h : LTab f xs) (r : Int) (r0 : 0 ≤ r) (k n : Nat) : cN r xs k - cN r xs (k + n) ≤ n * cD r xs k := by
  induction n with
  | zero => simp
  | succ n ih =>
    have := h.cN_step r (k + n)
    have := h.cD_mono r r0 k n
    rw [show k + (n + 1) = k + n + 1 by omega, show ((n + 1 : Nat) : Int) * cD r xs k = (n : Int) * cD r xs k + cD r xs k by rw [Int.natCast_add, Int.add_mul]; omega]
    omega

/-- what the law asks of the numbers -/
theorem ann_facts {r f : Int} {xs : List Int} {x b n : Int} (h : anE r f xs x (inB b 1 1000000) n = 0) :
    anE r f xs x (inB b 1 1000000) 0 = 0 ∧ (0 ≤ n ∧ n ≤ 120) ∧ (1 ≤ b ∧ b ≤ 1000000) ∧ ∃ X Y W Z : Int, termV r f xs x b n = X ∧ lateV r f xs x b n = Y ∧ lifeV r f xs x b = W ∧ sureV r f xs x b n = Z ∧
      (0 ≤ X ∧ X ≤ 200000000) ∧ (0 ≤ Y ∧ Y ≤ 200000000) ∧ (0 ≤ W ∧ W ≤ 200000000) ∧ (0 ≤ X + Y - W ∧ X + Y - W ≤ 1) ∧ (1 ≤ n → X ≤ b * n) ∧ (n ≤ 1 → X ≤ b) ∧ Y ≤ Z := by
  obtain ⟨hc, hb, ⟨n0, n1⟩, xn, hd⟩ := anE_iff.1 h
  obtain ⟨ht, ⟨r0, r1⟩, x0, x1⟩ := coE_iff.1 hc
  obtain ⟨b0, b1⟩ := (inB_iff _ _ _).1 hb
  have h0 : anE r f xs x (inB b 1 1000000) 0 = 0 := anE_iff.2 ⟨hc, hb, by omega, by omega, hd⟩
  obtain ⟨l0, l1⟩ := ht.late r r0 x n x0 n0
  have hn0 := (ht.cN_bd r r0 (x - f).toNat).1
  obtain ⟨-, q2, -, q4⟩ := ht.quot r r0 (x - f).toNat (cN r xs (x - f).toNat) b hn0 (Int.le_refl _) hd (by omega) b1
  obtain ⟨-, -, -, q5⟩ := ht.quot r r0 (x - f).toNat (cN r xs (x - f).toNat - cN r xs (x + n - f).toNat) b (by omega) (by omega) hd (by omega) b1
  obtain ⟨-, -, -, q6⟩ := ht.quot r r0 (x - f).toNat (cN r xs (x + n - f).toNat) b l0 l1 hd (by omega) b1
  obtain ⟨d0, d1, d2⟩ := sure_q r b n r0 n0 n1 (by omega) b1
  have hs0 := (upV_bd b (dsum r 0 n.toNat) 1000000000 120000000 (by omega) d0 (by omega) d2).1
  have hx := upV_bd b _ _ 152000000 (by omega) (show 0 ≤ cN r xs (x - f).toNat - cN r xs (x + n - f).toNat by omega) q2 q5
  have hy := upV_bd b _ _ 152000000 (by omega) l0 q2 q6
  have hw := upV_bd b _ _ 152000000 (by omega) hn0 q2 q4
  have hp := up_parts b (cN r xs (x - f).toNat - cN r xs (x + n - f).toNat) (cN r xs (x + n - f).toNat) (cD r xs (x - f).toNat) q2
  rw [show cN r xs (x - f).toNat - cN r xs (x + n - f).toNat + cN r xs (x + n - f).toNat = cN r xs (x - f).toNat by omega] at hp
  have hdf := ht.cN_diff r r0 (x - f).toNat n.toNat
  rw [show (x - f).toNat + n.toNat = (x + n - f).toNat by omega, show ((n.toNat : Nat) : Int) = n by omega] at hdf
  have hle : upV b (cN r xs (x - f).toNat - cN r xs (x + n - f).toNat) (cD r xs (x - f).toNat) ≤ b * n := by
    obtain ⟨_, e2⟩ := upV_ceil b (cN r xs (x - f).toNat - cN r xs (x + n - f).toNat) (cD r xs (x - f).toNat) q2
    have e3 : b * (cN r xs (x - f).toNat - cN r xs (x + n - f).toNat) ≤ b * (n * cD r xs (x - f).toNat) := Int.mul_le_mul_of_nonneg_left hdf (by omega)
    rw [← Int.mul_assoc] at e3
    have e4 : upV b (cN r xs (x - f).toNat - cN r xs (x + n - f).toNat) (cD r xs (x - f).toNat) * cD r xs (x - f).toNat < (b * n + 1) * cD r xs (x - f).toNat := by
      rw [Int.add_mul]; omega
    have := Int.lt_of_mul_lt_mul_right e4 (by omega)
    omega
  have eX : termV r f xs x b n = upV b (cN r xs (x - f).toNat - cN r xs (x + n - f).toNat) (cD r xs (x - f).toNat) := by unfold termV; rw [if_pos h]
  have eY : lateV r f xs x b n = upV b (cN r xs (x + n - f).toNat) (cD r xs (x - f).toNat) := by unfold lateV; rw [if_pos h]
  have eW : lifeV r f xs x b = upV b (cN r xs (x - f).toNat) (cD r xs (x - f).toNat) := by unfold lifeV; rw [if_pos h0]
  have eZ : sureV r f xs x b n = upV b (dsum r 0 n.toNat) 1000000000 + upV b (cN r xs (x + n - f).toNat) (cD r xs (x - f).toNat) := by unfold sureV; rw [if_pos h]
  refine ⟨h0, ⟨n0, n1⟩, ⟨b0, b1⟩, _, _, _, _, eX, eY, eW, eZ, by omega, by omega, by omega, hp, fun _ => hle, fun hn => ?_, by omega⟩
  have : b * n ≤ b * 1 := Int.mul_le_mul_of_nonneg_left hn (by omega)
  omega

set_option maxRecDepth 100000 in
set_option maxHeartbeats 4000000 in
theorem fnAnnuities_walk (a0 : Option Addr) (len0 cap0 : Nat) (z0 : List Int) (w : World) (w0 : IsRow .u8 w a0 len0 cap0 z0) :
    Calls Try.prog 4 #[.slice a0 len0 cap0] w fun e w' => e = .returned (.bool true) ∧ Below w.heap.size w w' := by
  by_cases hbig : (4096 : Int) < len0
  · go_enter Try.func4, Try.ntmps4
    go_wp2_with (go_at_call 13; refine (bigI_any _ _ _ _).mono ?_; rintro e w' ⟨rfl, rfl⟩)
    go_ret
    exact ⟨rfl, Below.refl _ _⟩
  have HR := Lib.hid w0
  clear w0
  go_enter Try.func4, Try.ntmps4
  go_wp2_with (go_at_call 13; refine (bigI_any _ _ _ _).mono ?_; rintro e w' ⟨rfl, rfl⟩)
  refine (drawTA _ _ _ _ _ HR.out).mono ?_
  rintro e w1 ⟨F, ta, tn, tc, xs, r, x, b, n, rfl, hI, htc, htn, hb⟩
  have HB := Lib.hid hb
  have HI := Lib.hid hI
  clear hb hI
  have hF0 : Hid (FX w1.heap.size F ta tn tc xs w (w1.alloc (.cells #[.int .i64 F, .slice ta tn tc] 26))) := Lib.hid (by
    have hq := box_b w1 (.cells #[.int .i64 F, .slice ta tn tc] 26)
    exact ⟨HB.out.trans (hq.mono HB.out.size), by go_simp, by go_simp, HI.out.on hq⟩)
  have k0 := hF0.out.c0
  have k1 := hF0.out.c1
  clear HB HI
  go_wp2_with fail
  obtain ⟨T, hT⟩ : ∃ T, w1.heap.size = T := ⟨_, rfl⟩
  rw [hT] at hF0 k0 k1
  (try rw [hT])
  clear hT
  generalize (w1.alloc (.cells #[.int .i64 F, .slice ta tn tc] 26)) = w2 at hF0 k0 k1 ⊢
  have HF := hF0
  clear hF0
  have TI : Hid (∀ W, Hid (FX T F ta tn tc xs w W) → Calls Try.prog 21 #[.agg #[.int .i64 F, .slice ta tn tc], .int .i64 r, .int .i64 x, .int .i64 b, .int .i64 n] W fun e w' => e = .returned (.tuple #[.int .i64 (termV r F xs x b n), .int .i64 (anE r F xs x (inB b 1 1000000) n)]) ∧ Hid (FX T F ta tn tc xs w w')) :=
    Lib.hid (fun W hW => (iterm_any r F xs ta tn tc x b n W hW.out.ints htc).mono fun e w' ⟨he, hb⟩ => ⟨he, Lib.hid (hW.out.step hb)⟩)
  have TS : Hid (∀ W, Hid (FX T F ta tn tc xs w W) → Calls Try.prog 22 #[.agg #[.int .i64 F, .slice ta tn tc], .int .i64 r, .int .i64 x, .int .i64 b, .int .i64 n] W fun e w' => e = .returned (.tuple #[.int .i64 (termV r F xs x b n), .int .i64 (anE r F xs x (inB b 1 1000000) n)]) ∧ Hid (FX T F ta tn tc xs w w')) :=
    Lib.hid (fun W hW => (sterm_any r F xs ta tn tc x b n W hW.out.ints).mono fun e w' ⟨he, hb⟩ => ⟨he, Lib.hid (hW.out.step hb)⟩)
  have LI : Hid (∀ W, Hid (FX T F ta tn tc xs w W) → Calls Try.prog 23 #[.agg #[.int .i64 F, .slice ta tn tc], .int .i64 r, .int .i64 x, .int .i64 b, .int .i64 n] W fun e w' => e = .returned (.tuple #[.int .i64 (lateV r F xs x b n), .int .i64 (anE r F xs x (inB b 1 1000000) n)]) ∧ Hid (FX T F ta tn tc xs w w')) :=
    Lib.hid (fun W hW => (ilate_any r F xs ta tn tc x b n W hW.out.ints htc).mono fun e w' ⟨he, hb⟩ => ⟨he, Lib.hid (hW.out.step hb)⟩)
  have LS : Hid (∀ W, Hid (FX T F ta tn tc xs w W) → Calls Try.prog 24 #[.agg #[.int .i64 F, .slice ta tn tc], .int .i64 r, .int .i64 x, .int .i64 b, .int .i64 n] W fun e w' => e = .returned (.tuple #[.int .i64 (lateV r F xs x b n), .int .i64 (anE r F xs x (inB b 1 1000000) n)]) ∧ Hid (FX T F ta tn tc xs w w')) :=
    Lib.hid (fun W hW => (slate_any r F xs ta tn tc x b n W hW.out.ints).mono fun e w' ⟨he, hb⟩ => ⟨he, Lib.hid (hW.out.step hb)⟩)
  have SI : Hid (∀ W, Hid (FX T F ta tn tc xs w W) → Calls Try.prog 25 #[.agg #[.int .i64 F, .slice ta tn tc], .int .i64 r, .int .i64 x, .int .i64 b, .int .i64 n] W fun e w' => e = .returned (.tuple #[.int .i64 (sureV r F xs x b n), .int .i64 (anE r F xs x (inB b 1 1000000) n)]) ∧ Hid (FX T F ta tn tc xs w w')) :=
    Lib.hid (fun W hW => (isure_any r F xs ta tn tc x b n W hW.out.ints htc).mono fun e w' ⟨he, hb⟩ => ⟨he, Lib.hid (hW.out.step hb)⟩)
  have SS : Hid (∀ W, Hid (FX T F ta tn tc xs w W) → Calls Try.prog 26 #[.agg #[.int .i64 F, .slice ta tn tc], .int .i64 r, .int .i64 x, .int .i64 b, .int .i64 n] W fun e w' => e = .returned (.tuple #[.int .i64 (sureV r F xs x b n), .int .i64 (anE r F xs x (inB b 1 1000000) n)]) ∧ Hid (FX T F ta tn tc xs w w')) :=
    Lib.hid (fun W hW => (ssure_any r F xs ta tn tc x b n W hW.out.ints).mono fun e w' ⟨he, hb⟩ => ⟨he, Lib.hid (hW.out.step hb)⟩)
  have WI : Hid (∀ W, Hid (FX T F ta tn tc xs w W) → Calls Try.prog 27 #[.agg #[.int .i64 F, .slice ta tn tc], .int .i64 r, .int .i64 x, .int .i64 b] W fun e w' => e = .returned (.tuple #[.int .i64 (lifeV r F xs x b), .int .i64 (anE r F xs x (inB b 1 1000000) 0)]) ∧ Hid (FX T F ta tn tc xs w w')) :=
    Lib.hid (fun W hW => (ilife_any r F xs ta tn tc x b W hW.out.ints htc).mono fun e w' ⟨he, hb⟩ => ⟨he, Lib.hid (hW.out.step hb)⟩)
  by_cases hM : anE r F xs x (inB b 1 1000000) n = 0
  case neg =>
    obtain ⟨M, hMe⟩ : ∃ M, anE r F xs x (inB b 1 1000000) n = M := ⟨_, rfl⟩
    obtain ⟨X, hX⟩ : ∃ M, termV r F xs x b n = M := ⟨_, rfl⟩
    obtain ⟨Y, hY⟩ : ∃ M, lateV r F xs x b n = M := ⟨_, rfl⟩
    obtain ⟨Z, hZ⟩ : ∃ M, sureV r F xs x b n = M := ⟨_, rfl⟩
    rw [hMe, hX] at TI TS
    rw [hMe, hY] at LI LS
    rw [hMe, hZ] at SI SS
    rw [hMe] at hM
    have hM1 : (M != 0) = true := by simpa using hM
    clear hMe hX hY hZ WI
    go_wp2_with (first
      | (go_at_call 21; refine (TI.out _ HF).mono ?_; rintro e w' ⟨rfl, HF⟩; have k0 := HF.out.c0; have k1 := HF.out.c1)
      | (go_at_call 22; refine (TS.out _ HF).mono ?_; rintro e w' ⟨rfl, HF⟩; have k0 := HF.out.c0; have k1 := HF.out.c1)
      | (go_at_call 23; refine (LI.out _ HF).mono ?_; rintro e w' ⟨rfl, HF⟩; have k0 := HF.out.c0; have k1 := HF.out.c1)
      | (go_at_call 24; refine (LS.out _ HF).mono ?_; rintro e w' ⟨rfl, HF⟩; have k0 := HF.out.c0; have k1 := HF.out.c1)
      | (go_at_call 25; refine (SI.out _ HF).mono ?_; rintro e w' ⟨rfl, HF⟩; have k0 := HF.out.c0; have k1 := HF.out.c1)
      | (go_at_call 26; refine (SS.out _ HF).mono ?_; rintro e w' ⟨rfl, HF⟩; have k0 := HF.out.c0; have k1 := HF.out.c1))
    go_ret
    exact ⟨rfl, HF.out.low⟩
  obtain ⟨h0, ⟨n0, n1⟩, ⟨b0, b1⟩, X, Y, V, Z, hX, hY, hV, hZ, ⟨X0, X1⟩, ⟨Y0, Y1⟩, ⟨V0, V1⟩, ⟨s0, s1⟩, hle, hlb, hYZ⟩ := ann_facts hM
  rw [hM, hX] at TI TS
  rw [hM, hY] at LI LS
  rw [hM, hZ] at SI SS
  rw [h0, hV] at WI
  have q1 : IntKind.i64.wrap (X + Y) = X + Y := IntWalk.i64_in _ (by omega)
  have q2 : IntKind.i64.wrap (X + Y - V) = X + Y - V := IntWalk.i64_in _ (by omega)
  clear h0 hM hX hY hV hZ
  have hmx : X ≤ wrap64 (b * max n 1) := by
    have e : wrap64 (b * max n 1) = b * max n 1 := by
      by_cases hn : 1 ≤ n
      · have hP0 : 0 ≤ b * n := Int.mul_nonneg (by omega) (by omega)
        have hP1 : b * n ≤ 1000000 * 120 := Int.mul_le_mul b1 n1 n0 (by omega)
        rw [Int.max_eq_left hn]; exact IntWalk.wrap64_in _ (by omega)
      · rw [Int.max_eq_right (by omega), Int.mul_one]; exact IntWalk.wrap64_in _ (by omega)
    rw [e]
    by_cases hn : 1 ≤ n
    · rw [Int.max_eq_left hn]; exact hle hn
    · rw [Int.max_eq_right (by omega), Int.mul_one]; exact hlb (by omega)
  have hmy : ¬ wrap64 (b * max n 1) < X := by omega
  have hVX : V ≤ X + Y := by omega
  clear hle hlb
  go_wp2_with (first
    | (go_at_call 21; refine (TI.out _ HF).mono ?_; rintro e w' ⟨rfl, HF⟩; have k0 := HF.out.c0; have k1 := HF.out.c1)
    | (go_at_call 22; refine (TS.out _ HF).mono ?_; rintro e w' ⟨rfl, HF⟩; have k0 := HF.out.c0; have k1 := HF.out.c1)
    | (go_at_call 23; refine (LI.out _ HF).mono ?_; rintro e w' ⟨rfl, HF⟩; have k0 := HF.out.c0; have k1 := HF.out.c1)
    | (go_at_call 24; refine (LS.out _ HF).mono ?_; rintro e w' ⟨rfl, HF⟩; have k0 := HF.out.c0; have k1 := HF.out.c1)
    | (go_at_call 25; refine (SI.out _ HF).mono ?_; rintro e w' ⟨rfl, HF⟩; have k0 := HF.out.c0; have k1 := HF.out.c1)
    | (go_at_call 26; refine (SS.out _ HF).mono ?_; rintro e w' ⟨rfl, HF⟩; have k0 := HF.out.c0; have k1 := HF.out.c1)
    | (go_at_call 27; refine (WI.out _ HF).mono ?_; rintro e w' ⟨rfl, HF⟩; have k0 := HF.out.c0; have k1 := HF.out.c1))
  go_ret
  exact ⟨rfl, HF.out.low⟩

end Go.Proofs.Ytmcagpcldjopjaa

/- The law on the years that are still lived. -/
import Derived.Test.YtmcagpcldjopjaaMean
import Derived.Test.YtmcagpcldjopjaaDrLB
namespace Go.Proofs.Ytmcagpcldjopjaa
open Go.ChangeShapes Go.WideShapes Go.ChangeAt Go.RowKit
set_option linter.unusedVariables false

/-- in the midst of a law on a table: T is its box -/
structure FX (T : Nat) (F : Int) (ta : Option Addr) (tn tc : Nat) (xs : List Int) (w w' : World) : Prop where
  low : Below w.heap.size w w'
  c0 : w'.cell? ⟨T, 0, none⟩ = some (.int .i64 F)
  c1 : w'.cell? ⟨T, 1, none⟩ = some (.slice ta tn tc)
  ints : Ints w' ta tn xs

theorem FX.step {T : Nat} {F : Int} {ta : Option Addr} {tn tc : Nat} {xs : List Int} {w w1 w2 : World} (h : FX T F ta tn tc xs w w1) (hb : Below w1.heap.size w1 w2) : FX T F ta tn tc xs w w2 :=
  ⟨h.low.trans (hb.mono h.low.size), keep2 hb h.c0, keep2 hb h.c1, h.ints.on hb⟩

/-- what the law asks of the numbers -/
theorem exp_facts {f : Int} {xs : List Int} {x : Int} (h : clE f xs x 0 = 0) : ∃ A B G L Q : Int, exN f xs x = A ∧ exD f xs x = B ∧ lvs f xs x = L ∧ lvs f xs (x + 1) = Q ∧ x + 1 ≤ 150 ∧ 1 ≤ B ∧ L % B = 0 ∧ L / B = G ∧ 0 ≤ L ∧ L ≤ 1000000 ∧ 0 ≤ A ∧ A ≤ 120000000 ∧ B ≤ 1000000 ∧ 0 ≤ G ∧ G ≤ 1000000 ∧ 0 ≤ Q ∧ Q ≤ 1000000 ∧ LTab f xs ∧ f ≤ x ∧ (0 ≤ A * G ∧ A * G ≤ 120000000) ∧ (Q = 0 → A = 0) ∧
    (Q ≠ 0 → clE f xs (x + 1) 0 = 0 ∧ ∃ C D K : Int, exN f xs (x + 1) = C ∧ exD f xs (x + 1) = D ∧ 1 ≤ D ∧ Q % D = 0 ∧ Q / D = K ∧ A * G = Q + C * K ∧ 0 ≤ C ∧ C ≤ 120000000 ∧ D ≤ 1000000 ∧ 0 ≤ C * K ∧ C * K ≤ 120000000) := by
  obtain ⟨ht, ⟨x0, x1⟩, _, hp⟩ := clE_iff.1 h
  have hx : x + 1 ≤ 150 := by
    by_cases hx : x = 150
    · subst hx; exact absurd (ht.lvs_zero 150 (by have := ht.2.2.1; omega)) hp
    · omega
  obtain ⟨p0, p1⟩ := ht.lvs_bd x
  obtain ⟨r0, r1⟩ := ht.lvs_bd (x + 1)
  obtain ⟨u0, u1⟩ := ht.later_bd x x0
  obtain ⟨v0, v1⟩ := ht.later_bd (x + 1) (by omega)
  obtain ⟨e1, e2⟩ := ex_0 h rfl rfl
  have hn := later_next f xs x x0
  obtain ⟨a, b, g, ha, hb, a0, b0, hm, hg, hag, g0, g1, al⟩ := gcd_parts (laterSum f xs x) (lvs f xs x) u0 (by omega)
  rw [ha] at e1
  rw [hb] at e2
  have hb1 : b ≤ 1000000 := by rw [← e2]; exact (ex_bd f xs x).2.2
  refine ⟨a, b, g, _, _, e1, e2, rfl, rfl, hx, b0, hm, hg, p0, p1, a0, by omega, hb1, by omega, by omega, r0, r1, ht, x0, ⟨by omega, by omega⟩, ?_, ?_⟩
  · intro hq
    have hz : laterSum f xs (x + 1) = 0 := by
      have : (x + 1 - f).toNat + 1 ≥ xs.length := by
        by_cases hl : (x + 1 - f).toNat + 1 < xs.length
        · have := ht.pos _ hl
          unfold lvs at hq
          omega
        · omega
      unfold laterSum
      rw [List.drop_of_length_le (by omega)]; rfl
    have h0 : a * g = 0 := by rw [hag, hn, hq, hz]; omega
    rcases Int.mul_eq_zero.1 h0 with h | h <;> omega
  · intro hq
    have hc : clE f xs (x + 1) 0 = 0 := clE_iff.2 ⟨ht, ⟨by omega, hx⟩, ⟨by omega, by omega⟩, hq⟩
    obtain ⟨f1, f2⟩ := ex_0 hc rfl rfl
    obtain ⟨c, d, k, hc1, hd1, c0, d0, hm2, hk, hck, k0, k1, cl⟩ := gcd_parts (laterSum f xs (x + 1)) (lvs f xs (x + 1)) v0 (by omega)
    rw [hc1] at f1
    rw [hd1] at f2
    have hd2 : d ≤ 1000000 := by rw [← f2]; exact (ex_bd f xs (x + 1)).2.2
    exact ⟨hc, c, d, k, f1, f2, d0, hm2, hk, by rw [hag, hck]; omega, c0, by omega, hd2, by omega, by omega⟩

set_option maxRecDepth 100000 in
set_option maxHeartbeats 4000000 in
theorem fnExpected_walk (a0 : Option Addr) (len0 cap0 : Nat) (z0 : List Int) (w : World) (w0 : IsRow .u8 w a0 len0 cap0 z0) :
    Calls Try.prog 3 #[.slice a0 len0 cap0] w fun e w' => e = .returned (.bool true) ∧ Below w.heap.size w w' := by
  by_cases hbig : (4096 : Int) < len0
  · go_enter Try.func3, Try.ntmps3
    go_wp2_with (go_at_call 13; refine (bigT_any _ _ _ _).mono ?_; rintro e w' ⟨rfl, rfl⟩)
    go_ret
    exact ⟨rfl, Below.refl _ _⟩
  have HR := Lib.hid w0
  clear w0
  go_enter Try.func3, Try.ntmps3
  go_wp2_with (go_at_call 13; refine (bigT_any _ _ _ _).mono ?_; rintro e w' ⟨rfl, rfl⟩)
  refine (drawEY _ _ _ _ _ HR.out).mono ?_
  rintro e w1 ⟨F, ta, tn, tc, xs, x, rfl, hI, htc, htn, far, hb⟩
  have HB := Lib.hid hb
  have HI := Lib.hid hI
  clear hb hI far
  have hF0 : Hid (FX w1.heap.size F ta tn tc xs w (w1.alloc (.cells #[.int .i64 F, .slice ta tn tc] 26))) := Lib.hid (by
    have hq := box_b w1 (.cells #[.int .i64 F, .slice ta tn tc] 26)
    exact ⟨HB.out.trans (hq.mono HB.out.size), by go_simp, by go_simp, HI.out.on hq⟩)
  have k0 := hF0.out.c0
  have k1 := hF0.out.c1
  clear HB HI
  go_wp2_with fail
  obtain ⟨T, hT⟩ : ∃ T, w1.heap.size = T := ⟨_, rfl⟩
  rw [hT] at hF0 k0 k1
  (try rw [hT])
  clear hT
  generalize (w1.alloc (.cells #[.int .i64 F, .slice ta tn tc] 26)) = w2 at hF0 k0 k1 ⊢
  have HF := hF0
  clear hF0
  have EI : Hid (∀ W, Hid (FX T F ta tn tc xs w W) → Calls Try.prog 15 #[.agg #[.int .i64 F, .slice ta tn tc], .int .i64 x] W fun e w' => e = .returned (.tuple #[.int .i64 (exN F xs x), .int .i64 (exD F xs x), .int .i64 (clE F xs x 0)]) ∧ Hid (FX T F ta tn tc xs w w')) :=
    Lib.hid (fun W hW => (ex_impl F xs ta tn tc x W hW.out.ints htc).mono fun e w' ⟨he, hb⟩ => ⟨he, Lib.hid (hW.out.step hb)⟩)
  have ES : Hid (∀ W, Hid (FX T F ta tn tc xs w W) → Calls Try.prog 16 #[.agg #[.int .i64 F, .slice ta tn tc], .int .i64 x] W fun e w' => e = .returned (.tuple #[.int .i64 (exN F xs x), .int .i64 (exD F xs x), .int .i64 (clE F xs x 0)]) ∧ Hid (FX T F ta tn tc xs w w')) :=
    Lib.hid (fun W hW => (ex_spec F xs ta tn tc x W hW.out.ints).mono fun e w' ⟨he, hb⟩ => ⟨he, Lib.hid (hW.out.step hb)⟩)
  have MI : Hid (∀ W, Hid (FX T F ta tn tc xs w W) → Calls Try.prog 17 #[.agg #[.int .i64 F, .slice ta tn tc], .int .i64 x] W fun e w' => e = .returned (.tuple #[.int .i64 (exN F xs x + exD F xs x), .int .i64 (exD F xs x), .int .i64 (clE F xs x 0)]) ∧ Hid (FX T F ta tn tc xs w w')) :=
    Lib.hid (fun W hW => (mean_impl F xs ta tn tc x W hW.out.ints htc).mono fun e w' ⟨he, hb⟩ => ⟨he, Lib.hid (hW.out.step hb)⟩)
  have MS : Hid (∀ W, Hid (FX T F ta tn tc xs w W) → Calls Try.prog 18 #[.agg #[.int .i64 F, .slice ta tn tc], .int .i64 x] W fun e w' => e = .returned (.tuple #[.int .i64 (exN F xs x + exD F xs x), .int .i64 (exD F xs x), .int .i64 (clE F xs x 0)]) ∧ Hid (FX T F ta tn tc xs w w')) :=
    Lib.hid (fun W hW => (mean_spec F xs ta tn tc x W hW.out.ints).mono fun e w' ⟨he, hb⟩ => ⟨he, Lib.hid (hW.out.step hb)⟩)
  have LA : Hid (∀ u v W, LTab F xs → F ≤ u → u ≤ 150 → lvs F xs u = v → Hid (FX T F ta tn tc xs w W) → Calls Try.prog 19 #[.agg #[.int .i64 F, .slice ta tn tc], .int .i64 u] W fun e w' => e = .returned (.tuple #[.int .i64 v, .int .i64 0]) ∧ Hid (FX T F ta tn tc xs w w')) :=
    Lib.hid (fun u v W ht h1 h2 hv hW => (la_impl F xs ta tn tc u W hW.out.ints htc).mono fun e w' ⟨he, hb⟩ => ⟨by
      have ha : ageE F xs u = 0 := ageE_iff.2 ⟨ht, h1, h2⟩
      rw [he, ha]; simp [laV, ha, hv], Lib.hid (hW.out.step hb)⟩)
  have EX : Hid (∀ C D W, clE F xs (x + 1) 0 = 0 → exN F xs (x + 1) = C → exD F xs (x + 1) = D → Hid (FX T F ta tn tc xs w W) → Calls Try.prog 15 #[.agg #[.int .i64 F, .slice ta tn tc], .int .i64 (x + 1)] W fun e w' => e = .returned (.tuple #[.int .i64 C, .int .i64 D, .int .i64 0]) ∧ Hid (FX T F ta tn tc xs w w')) :=
    Lib.hid (fun C D W h0 h1 h2 hW => (ex_impl F xs ta tn tc (x + 1) W hW.out.ints htc).mono fun e w' ⟨he, hb⟩ => ⟨by rw [he, h0, h1, h2], Lib.hid (hW.out.step hb)⟩)
  by_cases hM : clE F xs x 0 = 0
  case neg =>
    obtain ⟨e1, e2⟩ := ex_n hM
    rw [e1, e2] at EI ES MI MS
    obtain ⟨M, hMe⟩ : ∃ M, clE F xs x 0 = M := ⟨_, rfl⟩
    rw [hMe] at EI ES MI MS hM
    have hM1 : (M != 0) = true := by simpa using hM
    clear hMe e1 e2 LA EX
    go_wp2_with (first
      | (go_at_call 15; refine (EI.out _ HF).mono ?_; rintro e w' ⟨rfl, HF⟩; have k0 := HF.out.c0; have k1 := HF.out.c1)
      | (go_at_call 16; refine (ES.out _ HF).mono ?_; rintro e w' ⟨rfl, HF⟩; have k0 := HF.out.c0; have k1 := HF.out.c1)
      | (go_at_call 17; refine (MI.out _ HF).mono ?_; rintro e w' ⟨rfl, HF⟩; have k0 := HF.out.c0; have k1 := HF.out.c1)
      | (go_at_call 18; refine (MS.out _ HF).mono ?_; rintro e w' ⟨rfl, HF⟩; have k0 := HF.out.c0; have k1 := HF.out.c1))
    go_ret
    exact ⟨rfl, HF.out.low⟩
  obtain ⟨A, B, G, L, Q, hA, hB, hL, hQ, hx, B0, hmod, hdiv, L0, L1, A0, A1, B1, G0, G1, Q0, Q1, ht, x0, ⟨p0, p1⟩, hz, hs⟩ := exp_facts hM
  rw [hA, hB, hM] at EI ES MI MS
  have f0 := ht.1.1
  have LX : Hid (∀ W, Hid (FX T F ta tn tc xs w W) → Calls Try.prog 19 #[.agg #[.int .i64 F, .slice ta tn tc], .int .i64 x] W fun e w' => e = .returned (.tuple #[.int .i64 L, .int .i64 0]) ∧ Hid (FX T F ta tn tc xs w w')) := Lib.hid (fun W => LA.out x L W ht x0 (by omega) hL)
  have LY : Hid (∀ W, Hid (FX T F ta tn tc xs w W) → Calls Try.prog 19 #[.agg #[.int .i64 F, .slice ta tn tc], .int .i64 (x + 1)] W fun e w' => e = .returned (.tuple #[.int .i64 Q, .int .i64 0]) ∧ Hid (FX T F ta tn tc xs w w')) := Lib.hid (fun W => LA.out (x + 1) Q W ht (by omega) hx hQ)
  have q1 : IntKind.i64.wrap (x + 1) = x + 1 := IntWalk.i64_in _ (by omega)
  have q2 : IntKind.i64.wrap (A + B) = A + B := IntWalk.i64_in _ (by omega)
  have q3 : IntKind.i64.wrap (L.tmod B) = 0 := by rw [Int.tmod_eq_emod_of_nonneg L0, hmod]; rfl
  have q4 : IntKind.i64.wrap (L.tdiv B) = G := by rw [Int.tdiv_eq_ediv_of_nonneg L0, hdiv]; exact IntWalk.i64_in _ (by omega)
  have hx1 : x < 150 := by omega
  have hB0 : B ≠ 0 := by omega
  obtain ⟨X, hX⟩ : ∃ X, A * G = X := ⟨_, rfl⟩
  rw [hX] at p0 p1
  have q5 : IntKind.i64.wrap (A * G) = X := by rw [hX]; exact IntWalk.i64_in _ (by omega)
  by_cases hq : Q = 0
  · have hz2 : (A == 0) = true := by simp [hz hq]
    have hq2 : (Q == 0) = true := by simp [hq]
    clear hq hM hA hB hL hQ hs hz ht LA EX hX
    go_wp2_with (first
      | (go_at_call 15; refine (EI.out _ HF).mono ?_; rintro e w' ⟨rfl, HF⟩; have k0 := HF.out.c0; have k1 := HF.out.c1)
      | (go_at_call 16; refine (ES.out _ HF).mono ?_; rintro e w' ⟨rfl, HF⟩; have k0 := HF.out.c0; have k1 := HF.out.c1)
      | (go_at_call 17; refine (MI.out _ HF).mono ?_; rintro e w' ⟨rfl, HF⟩; have k0 := HF.out.c0; have k1 := HF.out.c1)
      | (go_at_call 18; refine (MS.out _ HF).mono ?_; rintro e w' ⟨rfl, HF⟩; have k0 := HF.out.c0; have k1 := HF.out.c1)
      | (go_at_call 19; ((first | (with_reducible refine (LX.out _ HF).mono ?_) | (with_reducible refine (LY.out _ HF).mono ?_)); rintro e w' ⟨rfl, HF⟩; have k0 := HF.out.c0; have k1 := HF.out.c1)))
    go_ret
    exact ⟨rfl, HF.out.low⟩
  · obtain ⟨hc, C, D, K, hC, hD, D0, hm2, hK, hsum, C0, C1, D1, s0, s1⟩ := hs hq
    have EY : Hid (∀ W, Hid (FX T F ta tn tc xs w W) → Calls Try.prog 15 #[.agg #[.int .i64 F, .slice ta tn tc], .int .i64 (x + 1)] W fun e w' => e = .returned (.tuple #[.int .i64 C, .int .i64 D, .int .i64 0]) ∧ Hid (FX T F ta tn tc xs w w')) := Lib.hid (fun W => EX.out C D W hc hC hD)
    have hq2 : (Q == 0) = false := by simp [hq]
    have hD0 : D ≠ 0 := by omega
    have hDp : 0 < D := by omega
    have q6 : IntKind.i64.wrap (Q.tmod D) = 0 := by rw [Int.tmod_eq_emod_of_nonneg Q0, hm2]; rfl
    have q7 : IntKind.i64.wrap (Q.tdiv D) = K := by
      rw [Int.tdiv_eq_ediv_of_nonneg Q0, hK]
      have := Int.ediv_le_self D Q0
      have := Int.ediv_nonneg Q0 (show 0 ≤ D by omega)
      exact IntWalk.i64_in _ (by omega)
    rw [hX] at hsum
    obtain ⟨Y, hY⟩ : ∃ X, C * K = X := ⟨_, rfl⟩
    rw [hY] at s0 s1 hsum
    have q8 : IntKind.i64.wrap (C * K) = Y := by rw [hY]; exact IntWalk.i64_in _ (by omega)
    have q9 : IntKind.i64.wrap (Q + Y) = X := by rw [← hsum]; exact IntWalk.i64_in _ (by omega)
    clear hM hA hB hL hQ hs hz ht LA EX hX hc hC hD hY hsum hq
    go_wp2_with (first
      | (go_at_call 15; ((first | (with_reducible refine (EI.out _ HF).mono ?_) | (with_reducible refine (EY.out _ HF).mono ?_)); rintro e w' ⟨rfl, HF⟩; have k0 := HF.out.c0; have k1 := HF.out.c1))
      | (go_at_call 16; refine (ES.out _ HF).mono ?_; rintro e w' ⟨rfl, HF⟩; have k0 := HF.out.c0; have k1 := HF.out.c1)
      | (go_at_call 17; refine (MI.out _ HF).mono ?_; rintro e w' ⟨rfl, HF⟩; have k0 := HF.out.c0; have k1 := HF.out.c1)
      | (go_at_call 18; refine (MS.out _ HF).mono ?_; rintro e w' ⟨rfl, HF⟩; have k0 := HF.out.c0; have k1 := HF.out.c1)
      | (go_at_call 19; ((first | (with_reducible refine (LX.out _ HF).mono ?_) | (with_reducible refine (LY.out _ HF).mono ?_)); rintro e w' ⟨rfl, HF⟩; have k0 := HF.out.c0; have k1 := HF.out.c1)))
    go_quiet (fail)
    go_wp2_with fail
    go_ret
    exact ⟨rfl, below_drewN HF.out.low _⟩

end Go.Proofs.Ytmcagpcldjopjaa

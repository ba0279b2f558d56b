/- The law on survival. -/
import Derived.Test.YtonkaoacohocjaaTabW
namespace Go.Proofs.Ytonkaoacohocjaa
open Go.ChangeShapes Go.WideShapes Go.ChangeAt Go.RowKit
set_option linter.unusedVariables false

/-- in the midst of a law on a table: T is its box -/
structure FS (T : Nat) (F : Int) (ta : Option Addr) (tn tc : Nat) (xs : List Int) (w w' : World) : Prop where
  low : Below w.heap.size w w'
  c0 : w'.cell? ⟨T, 0, none⟩ = some (.int .i64 F)
  c1 : w'.cell? ⟨T, 1, none⟩ = some (.slice ta tn tc)
  ints : Ints w' ta tn xs

theorem FS.step {T : Nat} {F : Int} {ta : Option Addr} {tn tc : Nat} {xs : List Int} {w w1 w2 : World} (h : FS T F ta tn tc xs w w1) (hb : Below w1.heap.size w1 w2) : FS T F ta tn tc xs w w2 :=
  ⟨h.low.trans (hb.mono h.low.size), keep2 hb h.c0, keep2 hb h.c1, h.ints.on hb⟩

theorem lvs_far {f : Int} {xs : List Int} (h : LTab f xs) (x : Int) (hx : 150 < x) : lvs f xs x = 0 := h.lvs_zero x (by have := h.2.2.1; omega)

set_option maxRecDepth 100000 in
set_option maxHeartbeats 4000000 in
theorem fnSurvival_walk (a0 : Option Addr) (len0 cap0 : Nat) (z0 : List Int) (w : World) (hr : IsRow .u8 w a0 len0 cap0 z0) :
    Calls Try.prog 3 #[.slice a0 len0 cap0] w fun e w' => e = .returned (.bool true) ∧ Below w.heap.size w w' := by
  by_cases hbig : (4096 : Int) < len0
  · go_enter Try.func3, Try.ntmps3
    go_wp2_with (go_at_call 12; refine (bigT_any _ _ _ _).mono ?_; rintro e w' ⟨rfl, rfl⟩)
    go_ret
    exact ⟨rfl, Below.refl _ _⟩
  have HR := Lib.hid hr
  clear hr
  go_enter Try.func3, Try.ntmps3
  go_wp2_with (go_at_call 12; refine (bigT_any _ _ _ _).mono ?_; rintro e w' ⟨rfl, rfl⟩)
  refine (drawSV _ _ _ _ _ HR.out).mono ?_
  rintro e w1 ⟨F, ta, tn, tc, xs, x, y, rfl, hI, htc, htn, hb⟩
  have HB := Lib.hid hb
  have HI := Lib.hid hI
  clear hb hI
  have hF0 : Hid (FS w1.heap.size F ta tn tc xs w (w1.alloc (.cells #[.int .i64 F, .slice ta tn tc] 26))) := Lib.hid (by
    have hq := box_b w1 (.cells #[.int .i64 F, .slice ta tn tc] 26)
    exact ⟨HB.out.trans (hq.mono HB.out.size), by go_simp, by go_simp, HI.out.on hq⟩)
  have k0 := hF0.out.c0
  have k1 := hF0.out.c1
  clear HB HI
  go_wp2_with fail
  obtain ⟨T, hT⟩ : ∃ T, w1.heap.size = T := ⟨_, rfl⟩
  rw [hT] at hF0 k0 k1
  (try rw [hT])
  clear hT
  generalize (w1.alloc (.cells #[.int .i64 F, .slice ta tn tc] 26)) = w2 at hF0 k0 k1 ⊢
  have HF := hF0
  clear hF0
  have SI : Hid (∀ W, Hid (FS T F ta tn tc xs w W) → Calls Try.prog 14 #[.agg #[.int .i64 F, .slice ta tn tc], .int .i64 x, .int .i64 y] W fun e w' => e = .returned (.tuple #[.int .i64 (svN F xs x y), .int .i64 (svD F xs x y), .int .i64 (clE F xs x y)]) ∧ Hid (FS T F ta tn tc xs w w')) :=
    Lib.hid (fun W hW => (sv_impl F xs ta tn tc x y W hW.out.ints htc).mono fun e w' ⟨he, hb⟩ => ⟨he, Lib.hid (hW.out.step hb)⟩)
  have SS : Hid (∀ W, Hid (FS T F ta tn tc xs w W) → Calls Try.prog 15 #[.agg #[.int .i64 F, .slice ta tn tc], .int .i64 x, .int .i64 y] W fun e w' => e = .returned (.tuple #[.int .i64 (svN F xs x y), .int .i64 (svD F xs x y), .int .i64 (clE F xs x y)]) ∧ Hid (FS T F ta tn tc xs w w')) :=
    Lib.hid (fun W hW => (sv_spec F xs ta tn tc x y W hW.out.ints).mono fun e w' ⟨he, hb⟩ => ⟨he, Lib.hid (hW.out.step hb)⟩)
  have MI : Hid (∀ W, Hid (FS T F ta tn tc xs w W) → Calls Try.prog 16 #[.agg #[.int .i64 F, .slice ta tn tc], .int .i64 x] W fun e w' => e = .returned (.tuple #[.int .i64 (miV F xs x), .int .i64 (clE F xs x 0)]) ∧ Hid (FS T F ta tn tc xs w w')) :=
    Lib.hid (fun W hW => (mi_impl F xs ta tn tc x W hW.out.ints htc).mono fun e w' ⟨he, hb⟩ => ⟨he, Lib.hid (hW.out.step hb)⟩)
  have MS : Hid (∀ W, Hid (FS T F ta tn tc xs w W) → Calls Try.prog 17 #[.agg #[.int .i64 F, .slice ta tn tc], .int .i64 x] W fun e w' => e = .returned (.tuple #[.int .i64 (miV F xs x), .int .i64 (clE F xs x 0)]) ∧ Hid (FS T F ta tn tc xs w w')) :=
    Lib.hid (fun W hW => (mi_spec F xs ta tn tc x W hW.out.ints).mono fun e w' ⟨he, hb⟩ => ⟨he, Lib.hid (hW.out.step hb)⟩)
  have LA : Hid (∀ u v W, LTab F xs → F ≤ u → u ≤ 150 → lvs F xs u = v → Hid (FS T F ta tn tc xs w W) → Calls Try.prog 18 #[.agg #[.int .i64 F, .slice ta tn tc], .int .i64 u] W fun e w' => e = .returned (.tuple #[.int .i64 v, .int .i64 0]) ∧ Hid (FS T F ta tn tc xs w w')) :=
    Lib.hid (fun u v W ht h1 h2 hv hW => (la_impl F xs ta tn tc u W hW.out.ints htc).mono fun e w' ⟨he, hb⟩ => ⟨by
      have ha : ageE F xs u = 0 := ageE_iff.2 ⟨ht, h1, h2⟩
      rw [he, ha]; simp [laV, ha, hv], Lib.hid (hW.out.step hb)⟩)
  have CF : Hid (∀ N D W, cfV N D = 1 → cfE N D = 0 → Hid (FS T F ta tn tc xs w W) → Calls Try.prog 19 #[.int .i64 N, .int .i64 D] W fun e w' => e = .returned (.tuple #[.int .i64 1, .int .i64 0]) ∧ Hid (FS T F ta tn tc xs w w')) :=
    Lib.hid (fun N D W h1 h2 hW => (cf_impl N D W).mono fun e w' ⟨he, n, hn⟩ => ⟨by rw [he, h1, h2], Lib.hid (by rw [hn]; exact hW.out.step (below_drewN (Below.refl _ _) n))⟩)
  by_cases hM : clE F xs x 0 = 0
  case neg =>
    have hE : ¬ clE F xs x y = 0 := fun e => hM (clE_iff.2 (by obtain ⟨q1, q2, q3, q4⟩ := clE_iff.1 e; exact ⟨q1, q2, by omega, q4⟩))
    obtain ⟨sN, sD⟩ := sv_n hE
    have mV := mi_n hM
    rw [sN, sD] at SI SS
    rw [mV] at MI MS
    obtain ⟨E, hEe⟩ : ∃ E, clE F xs x y = E := ⟨_, rfl⟩
    obtain ⟨M, hMe⟩ : ∃ M, clE F xs x 0 = M := ⟨_, rfl⟩
    rw [hEe] at SI SS hE
    rw [hMe] at MI MS hM
    have hE1 : (E != 0) = true := by simpa using hE
    have hE2 : (E == 0) = false := by simpa using hE
    have hM1 : (M == 0) = false := by simpa using hM
    clear hEe hMe sN sD mV
    go_wp2_with (first
      | (go_at_call 14; refine (SI.out _ HF).mono ?_; rintro e w' ⟨rfl, HF⟩; have k0 := HF.out.c0; have k1 := HF.out.c1)
      | (go_at_call 15; refine (SS.out _ HF).mono ?_; rintro e w' ⟨rfl, HF⟩; have k0 := HF.out.c0; have k1 := HF.out.c1)
      | (go_at_call 16; refine (MI.out _ HF).mono ?_; rintro e w' ⟨rfl, HF⟩; have k0 := HF.out.c0; have k1 := HF.out.c1)
      | (go_at_call 17; refine (MS.out _ HF).mono ?_; rintro e w' ⟨rfl, HF⟩; have k0 := HF.out.c0; have k1 := HF.out.c1))
    go_ret
    exact ⟨rfl, HF.out.low⟩
  obtain ⟨m, hmi, m0, m1, m2, m3⟩ := mid_facts hM
  obtain ⟨ht, ⟨x0, x1⟩, _, hp⟩ := clE_iff.1 hM
  obtain ⟨p0, p1⟩ := ht.lvs_bd x
  obtain ⟨d0, d1⟩ := ht.lvs_bd m
  obtain ⟨g0, g1⟩ := ht.lvs_bd (m - 1)
  have f0 := ht.1.1
  rw [hmi, hM] at MI MS
  have LX : Hid (∀ v W, lvs F xs x = v → Hid (FS T F ta tn tc xs w W) → Calls Try.prog 18 #[.agg #[.int .i64 F, .slice ta tn tc], .int .i64 x] W fun e w' => e = .returned (.tuple #[.int .i64 v, .int .i64 0]) ∧ Hid (FS T F ta tn tc xs w w')) := Lib.hid (fun v W => LA.out x v W ht x0 x1)
  have LM : Hid (∀ v W, lvs F xs m = v → Hid (FS T F ta tn tc xs w W) → Calls Try.prog 18 #[.agg #[.int .i64 F, .slice ta tn tc], .int .i64 m] W fun e w' => e = .returned (.tuple #[.int .i64 v, .int .i64 0]) ∧ Hid (FS T F ta tn tc xs w w')) := Lib.hid (fun v W => LA.out m v W ht (by omega) m1)
  have LN : Hid (∀ v W, lvs F xs (m - 1) = v → Hid (FS T F ta tn tc xs w W) → Calls Try.prog 18 #[.agg #[.int .i64 F, .slice ta tn tc], .int .i64 (m - 1)] W fun e w' => e = .returned (.tuple #[.int .i64 v, .int .i64 0]) ∧ Hid (FS T F ta tn tc xs w w')) := Lib.hid (fun v W => LA.out (m - 1) v W ht (by omega) (by omega))
  obtain ⟨p, hpe⟩ : ∃ p, lvs F xs x = p := ⟨_, rfl⟩
  obtain ⟨pm, hpm⟩ : ∃ p, lvs F xs m = p := ⟨_, rfl⟩
  obtain ⟨pn, hpn⟩ : ∃ p, lvs F xs (m - 1) = p := ⟨_, rfl⟩
  rw [hpe] at p0 p1 m2 m3 hp
  rw [hpm] at d0 d1 m2
  rw [hpn] at g0 g1 m3
  have HPE := Lib.hid hpe
  have HPM := Lib.hid hpm
  have HPN := Lib.hid hpn
  have n1 : ¬ pm * 2 > p := by omega
  have n2 : pn * 2 > p := by omega
  have n3 : ¬ m ≤ x := by omega
  have hp1 : 1 ≤ p := by omega
  clear hpe hpm hpn hmi
  by_cases hE : clE F xs x y = 0
  case neg =>
    obtain ⟨sN, sD⟩ := sv_n hE
    rw [sN, sD] at SI SS
    obtain ⟨E, hEe⟩ : ∃ E, clE F xs x y = E := ⟨_, rfl⟩
    rw [hEe] at SI SS hE
    have hE1 : (E != 0) = true := by simpa using hE
    have hE2 : (E == 0) = false := by simpa using hE
    clear hEe sN sD hM ht LA
    go_wp2_with (first
      | (go_at_call 14; refine (SI.out _ HF).mono ?_; rintro e w' ⟨rfl, HF⟩; have k0 := HF.out.c0; have k1 := HF.out.c1)
      | (go_at_call 15; refine (SS.out _ HF).mono ?_; rintro e w' ⟨rfl, HF⟩; have k0 := HF.out.c0; have k1 := HF.out.c1)
      | (go_at_call 16; refine (MI.out _ HF).mono ?_; rintro e w' ⟨rfl, HF⟩; have k0 := HF.out.c0; have k1 := HF.out.c1)
      | (go_at_call 17; refine (MS.out _ HF).mono ?_; rintro e w' ⟨rfl, HF⟩; have k0 := HF.out.c0; have k1 := HF.out.c1)
      | (go_at_call 18; ((first | (with_reducible refine (LX.out _ _ HPE.out HF).mono ?_) | (with_reducible refine (LM.out _ _ HPM.out HF).mono ?_) | (with_reducible refine (LN.out _ _ HPN.out HF).mono ?_)); rintro e w' ⟨rfl, HF⟩; have k0 := HF.out.c0; have k1 := HF.out.c1)))
    go_ret
    exact ⟨rfl, HF.out.low⟩
  obtain ⟨_, _, ⟨y0, y1⟩, _⟩ := clE_iff.1 hE
  obtain ⟨s0, s1⟩ := ht.lvs_bd (x + y)
  have hfar : 150 < x + y → lvs F xs (x + y) = 0 := lvs_far ht (x + y)
  have LY : Hid (∀ v W, lvs F xs (x + y) = v → x + y ≤ 150 → Hid (FS T F ta tn tc xs w W) → Calls Try.prog 18 #[.agg #[.int .i64 F, .slice ta tn tc], .int .i64 (x + y)] W fun e w' => e = .returned (.tuple #[.int .i64 v, .int .i64 0]) ∧ Hid (FS T F ta tn tc xs w w')) := Lib.hid (fun v W hv hl => LA.out (x + y) v W ht (by omega) hl hv)
  have sN : svN F xs x y = lvs F xs (x + y) / gcdI (lvs F xs (x + y)) (lvs F xs x) := by simp [svN, hE]
  have sD : svD F xs x y = lvs F xs x / gcdI (lvs F xs (x + y)) (lvs F xs x) := by simp [svD, hE]
  rw [sN, sD, hE, HPE.out] at SI SS
  obtain ⟨s, hse⟩ : ∃ s, lvs F xs (x + y) = s := ⟨_, rfl⟩
  rw [hse] at SI SS s0 s1 hfar
  have HSE := Lib.hid hse
  obtain ⟨N, D, hN, hD, ⟨nn0, nn1⟩, ⟨dd0, dd1⟩, hnd, hc1, hc2⟩ := frac_facts p s hp1 p1 s0 s1
  rw [hN, hD] at SI SS
  have CG : Hid (∀ W, Hid (FS T F ta tn tc xs w W) → Calls Try.prog 19 #[.int .i64 N, .int .i64 D] W fun e w' => e = .returned (.tuple #[.int .i64 1, .int .i64 0]) ∧ Hid (FS T F ta tn tc xs w w')) := Lib.hid (fun W => CF.out N D W hc1 hc2)
  obtain ⟨Q, hQ⟩ : ∃ Q, N * p = Q := ⟨_, rfl⟩
  have hQ0 : 0 ≤ Q := by rw [← hQ]; exact Int.mul_nonneg nn0 (by omega)
  have hQ1 : Q ≤ 1000000000000 := by
    rw [← hQ]
    have := Int.mul_le_mul nn1 p1 (by omega) (by omega : (0:Int) ≤ 1000000)
    omega
  have q5 : IntKind.i64.wrap (N * p) = Q := by rw [hQ]; exact IntWalk.i64_in _ (by omega)
  have hf0 : 150 < x + y → s = 0 ∧ Q = 0 := fun h => by
    have e := hfar h
    refine ⟨e, ?_⟩
    rw [← hQ, hnd, e]; simp
  have q6 : IntKind.i64.wrap (D * s) = Q := by rw [← hnd, hQ]; exact IntWalk.i64_in _ (by omega)
  clear hM ht LA CF hE sN sD hse hN hD hc1 hc2 hfar hQ hnd
  by_cases hxy : x + y ≤ 150
  · clear hf0
    go_wp2_with (first
      | (go_at_call 14; refine (SI.out _ HF).mono ?_; rintro e w' ⟨rfl, HF⟩; have k0 := HF.out.c0; have k1 := HF.out.c1)
      | (go_at_call 15; refine (SS.out _ HF).mono ?_; rintro e w' ⟨rfl, HF⟩; have k0 := HF.out.c0; have k1 := HF.out.c1)
      | (go_at_call 16; refine (MI.out _ HF).mono ?_; rintro e w' ⟨rfl, HF⟩; have k0 := HF.out.c0; have k1 := HF.out.c1)
      | (go_at_call 17; refine (MS.out _ HF).mono ?_; rintro e w' ⟨rfl, HF⟩; have k0 := HF.out.c0; have k1 := HF.out.c1)
      | (go_at_call 19; refine (CG.out _ HF).mono ?_; rintro e w' ⟨rfl, HF⟩; have k0 := HF.out.c0; have k1 := HF.out.c1)
      | (go_at_call 18; ((first | (with_reducible refine (LX.out _ _ HPE.out HF).mono ?_) | (with_reducible refine (LM.out _ _ HPM.out HF).mono ?_) | (with_reducible refine (LN.out _ _ HPN.out HF).mono ?_) | (with_reducible refine (LY.out _ _ HSE.out hxy HF).mono ?_)); rintro e w' ⟨rfl, HF⟩; have k0 := HF.out.c0; have k1 := HF.out.c1)))
    go_ret
    exact ⟨rfl, HF.out.low⟩
  · obtain ⟨rfl, rfl⟩ := hf0 (by omega)
    clear hf0
    have q7 : IntKind.i64.wrap (D * 0) = 0 := q6
    go_wp2_with (first
      | (go_at_call 14; refine (SI.out _ HF).mono ?_; rintro e w' ⟨rfl, HF⟩; have k0 := HF.out.c0; have k1 := HF.out.c1)
      | (go_at_call 15; refine (SS.out _ HF).mono ?_; rintro e w' ⟨rfl, HF⟩; have k0 := HF.out.c0; have k1 := HF.out.c1)
      | (go_at_call 16; refine (MI.out _ HF).mono ?_; rintro e w' ⟨rfl, HF⟩; have k0 := HF.out.c0; have k1 := HF.out.c1)
      | (go_at_call 17; refine (MS.out _ HF).mono ?_; rintro e w' ⟨rfl, HF⟩; have k0 := HF.out.c0; have k1 := HF.out.c1)
      | (go_at_call 19; refine (CG.out _ HF).mono ?_; rintro e w' ⟨rfl, HF⟩; have k0 := HF.out.c0; have k1 := HF.out.c1)
      | (go_at_call 18; ((first | (with_reducible refine (LX.out _ _ HPE.out HF).mono ?_) | (with_reducible refine (LM.out _ _ HPM.out HF).mono ?_) | (with_reducible refine (LN.out _ _ HPN.out HF).mono ?_)); rintro e w' ⟨rfl, HF⟩; have k0 := HF.out.c0; have k1 := HF.out.c1)))
    go_ret
    exact ⟨rfl, HF.out.low⟩

end Go.Proofs.Ytonkaoacohocjaa

/- The law on loans: a loan is paid back by its plan, and no payment is greater than the level one. -/
import Derived.Test.YthennmhmnimpfaaPlanL
import Derived.Test.YthennmhmnimpfaaIntD
import Derived.Test.YthennmhmnimpfaaDiv
namespace Go.Proofs.Ythennmhmnimpfaa
open Go.ChangeShapes Go.WideShapes Go.ChangeAt Go.RowKit
set_option linter.unusedVariables false
set_option maxRecDepth 100000

/-- what a year of a plan does, told for the walk -/
theorem year_law (a r n : Int) (hok : plOk a r n = true) : ∃ (p : Int) (N : Nat), lpV a r n = p ∧ lpE a r n = 0 ∧ plE a r n = 0 ∧ N ≤ 120 ∧ plY a r n = plan p r a N ∧ bal p r a N = 0 ∧ 1 ≤ p ∧ p ≤ 100000000000000000 ∧
    ∀ k : Nat, k < N → ∃ b u t : Int, bal p r a k = b ∧ duV (b * r) 1000 = u ∧ ddE (b * r) 1000 = 0 ∧ (plan p r a N).getD k 0 = t ∧ bal p r a (k + 1) = b + u - t ∧ 1 ≤ b ∧ b ≤ 100000000 ∧ 0 ≤ u ∧ u ≤ 20000000 ∧ 1 ≤ t ∧ t ≤ p ∧ t ≤ b + u ∧ ((k : Int) < (N : Int) - 1 → t = p) ∧ 0 ≤ b * r ∧ b * r ≤ 20000000000 := by
  have hl : lnB a r n = true := by unfold plOk at hok; rw [Bool.and_eq_true] at hok; exact hok.1
  have hb : bal (lpV a r n) r a (planN (lpV a r n) r a) ≤ 0 := by unfold plOk at hok; rw [Bool.and_eq_true, decide_eq_true_iff] at hok; exact hok.2
  obtain ⟨⟨a1, a2⟩, ⟨r0, r1⟩, ⟨n1, n2⟩⟩ := (lnB_iff _ _ _).1 hl
  have hp : 1 ≤ lpV a r n ∧ lpV a r n ≤ 100000000000000000 ∧ a * r ≤ lpV a r n * 1000 := by
    have := pay_bd a r n.toNat a1 a2 r0 r1 (by omega)
    simpa [lpV, hl] using this
  obtain ⟨p1, p2, p3⟩ := hp
  refine ⟨_, planN (lpV a r n) r a, rfl, by simp [lpE, hl], by simp [plE, hl, hok], planN_le _ _ _, by simp [plY, hok], ?_, p1, p2, ?_⟩
  · have := (bal_bd (lpV a r n) r a r0 p3 p1 (by omega) (planN (lpV a r n) r a)).1
    omega
  · intro k hk
    obtain ⟨p, hpe⟩ : ∃ p, lpV a r n = p := ⟨_, rfl⟩
    rw [hpe] at p1 p2 p3 hb hk ⊢
    obtain ⟨b, d, e1, e2, e3, -, b0, b1, b2, d1, m0, m1, e4, e5⟩ := plan_step p r a r0 r1 p3 p1 p2 (by omega) a2 k
    have hm := lst_min (fun k => decide (bal p r a k ≤ 0)) 120 0 k (by omega) hk
    rw [decide_eq_false_iff_not, e1] at hm
    have hdd : ddB (b * r) 1000 = true := (ddB_iff _ _).2 ⟨⟨by omega, by omega⟩, by omega, by omega⟩
    have hu : duV (b * r) 1000 = -(-(b * r) / 1000) := by simp [duV, hdd]
    refine ⟨b, _, _, e1, rfl, by simp [ddE, hdd], plan_get p r a _ k hk, ?_, by omega, b1, by rw [hu]; omega, by rw [hu]; omega, ?_, ?_, ?_, ?_, m0, m1⟩
    · rw [e1, e2, hu, e3]; omega
    · rw [e1, e2]; omega
    · rw [e1, e2]; omega
    · rw [e1, e2, hu]; omega
    · intro hk2
      have hm2 := lst_min (fun k => decide (bal p r a k ≤ 0)) 120 0 (k + 1) (by omega) (by show k + 1 < planN p r a; omega)
      rw [decide_eq_false_iff_not, e3] at hm2
      rw [e1, e2]
      omega

set_option maxHeartbeats 8000000 in
theorem fnLoans_walk (a0 : Option Addr) (len0 cap0 : Nat) (z0 : List Int) (w : World) (w0 : IsRow .u8 w a0 len0 cap0 z0) :
    Calls Try.prog 4 #[.slice a0 len0 cap0] w fun e w' => e = .returned (.bool true) ∧ Below w.heap.size w w' := by
  by_cases hbig : (4096 : Int) < len0
  · go_enter Try.func4, Try.ntmps4
    go_wp2_with (go_at_call 14; refine (bigI_any _ _ _ _).mono ?_; rintro e w' ⟨rfl, rfl⟩)
    go_ret
    exact ⟨rfl, Below.refl _ _⟩
  · have HR := Lib.hid w0
    clear w0
    go_enter Try.func4, Try.ntmps4
    go_wp2_with (go_at_call 14; refine (bigI_any _ _ _ _).mono ?_; rintro e w' ⟨rfl, rfl⟩)
    refine (drawLPlan _ _ _ _ _ HR.out).mono ?_
    rintro e w1 ⟨a, r, n, rfl, hb⟩
    have HB1 := Lib.hid hb
    clear hb
    obtain ⟨Y, hY⟩ : ∃ Y, plY a r n = Y := ⟨_, rfl⟩
    obtain ⟨E, hE⟩ : ∃ E, plE a r n = E := ⟨_, rfl⟩
    obtain ⟨p, hp⟩ : ∃ p, lpV a r n = p := ⟨_, rfl⟩
    obtain ⟨F, hF⟩ : ∃ F, lpE a r n = F := ⟨_, rfl⟩
    have CS : Hid (∀ (W : World), Calls Try.prog 26 #[.int .i64 a, .int .i64 r, .int .i64 n] W (LsPost Y E W)) := Lib.hid (fun W => (pl_spec a r n W).mono fun e w' hh => by have := pl_ls hh; rw [hY, hE] at this; exact this)
    have CI : Hid (∀ (W : World), Calls Try.prog 25 #[.int .i64 a, .int .i64 r, .int .i64 n] W (LsPost Y E W)) := Lib.hid (fun W => (pl_impl a r n W).mono fun e w' hh => by have := pl_ls hh; rw [hY, hE] at this; exact this)
    have ci := fun W => lp_impl a r n W
    have cs := fun W => lp_spec a r n W
    simp only [hp, hF] at ci cs
    have CI2 := Lib.hid ci
    have CS2 := Lib.hid cs
    have HYL := Lib.hid (fun h => year_law a r n h)
    have HEL : Hid (plOk a r n = false → E ≠ 0) := Lib.hid (fun h => by rw [← hE]; unfold plE; rw [h]; split <;> simp)
    rw [hY, hE, hp, hF] at HYL
    clear hY hE hp hF ci cs
    go_wp2_with fail
    refine (CI.out _).mono ?_
    rintro e w2 ⟨sa, sn, sc, rfl, hT, hb⟩
    have hsn : sn ≤ 4096 := hT.2.1
    have HB2 := Lib.hid (HB1.out.trans (hb.mono HB1.out.size))
    have HS2 := Lib.hid hT.ints
    clear hb hT
    go_wp2_with fail
    refine (CS.out _).mono ?_
    rintro e w3 ⟨ga, gn, gc, rfl, hT, hb⟩
    have HB3 := Lib.hid (HB2.out.trans (hb.mono HB2.out.size))
    have HS3 := Lib.hid (HS2.out.step hb)
    have HG3 := Lib.hid hT.ints
    clear hb hT
    go_wp2_with fail
    refine (CI2.out _).mono ?_
    rintro e w4 ⟨rfl, hb⟩
    have HB4 := Lib.hid (HB3.out.trans (hb.mono HB3.out.size))
    have HS4 := Lib.hid (HS3.out.step hb)
    have HG4 := Lib.hid (HG3.out.step hb)
    clear hb
    go_wp2_with (go_at_call 28; refine (CS2.out _).mono ?_; rintro e w' ⟨rfl, rfl⟩)
    refine (like_any Y Y _ _ _ _ _ _ _ HS4.out HG4.out).mono ?_
    rintro e w5 ⟨rfl, n5, rfl⟩
    have HB5 := Lib.hid (below_drewN HB4.out n5)
    have HS5 := Lib.hid (HS4.out.drewN n5)
    obtain ⟨w5, hw5⟩ : ∃ x, x = w4.drewN n5 := ⟨_, rfl⟩
    rw [← hw5] at HB5 HS5 ⊢
    clear hw5 HB4 HS4 HG4 HB3 HS3 HG3 HB2 HS2
    cases hok : plOk a r n with
    | false =>
      have hE0 := HEL.out hok
      have hE1 : (E != 0) = true := by simpa using hE0
      go_wp2_with fail
      go_ret
      exact ⟨rfl, HB5.out⟩
    | true =>
      obtain ⟨p', N, rfl, hF0, hE0, hN, hY, hz, p1, p2, hyr⟩ := HYL.out hok
      obtain rfl : sn = N := by have := HS5.out.len; rw [hY, plan_len] at this; exact this.symm
      have HYR := Lib.hid hyr
      have HZ := Lib.hid hz
      have HYE := Lib.hid hY
      subst hF0 hE0
      clear hyr hz hok CI2 CS2 CS CI HEL HYL hY
      go_wp2_with fail
      go_loop [14, 15] (fun v i => ∃ k : Nat, k ≤ sn ∧ i = .int .i64 k ∧ v = .int .i64 (bal p r a k)) (fun _ i => sn - (intOf i).toNat)
      case atStart => exact ⟨0, Nat.zero_le _, rfl, rfl⟩
      case round =>
        obtain ⟨k, hk, rfl, rfl⟩ := hrel
        by_cases hlt : k < sn
        · rcases HS5.out.cells with h0 | ⟨b, off, rfl, hc⟩
          · omega
          have hx := hc k hlt
          obtain ⟨b1, u, t, e1, e2, e3, e4, e5, g1, g2, g3, g4, g5, g6, g7, g8, m0, m1⟩ := HYR.out k hlt
          rw [HYE.out, e4] at hx
          rw [e1]
          have HC := Lib.hid hc
          have HE5 := Lib.hid e5
          have hdu := fun W => du_impl (b1 * r) 1000 W
          simp only [e2, e3] at hdu
          have HDU := Lib.hid hdu
          clear hc e1 e2 e3 e4 e5 hdu
          by_cases hl : (k : Int) < (sn : Int) - 1
          · obtain rfl : t = p := g8 hl
            clear g8
            go_wp2_with (go_at_call 30; refine (HDU.out _).mono ?_; rintro e w' ⟨rfl, rfl⟩)
            go_round
            case rel => exact ⟨k + 1, by omega, by go_num, by first | (rw [HE5.out]; done) | (rw [HE5.out]; exact ret_eq2 (by omega))⟩
            case measure => simp [intOf]; omega
          · clear g8
            go_wp2_with (go_at_call 30; refine (HDU.out _).mono ?_; rintro e w' ⟨rfl, rfl⟩)
            go_round
            case rel => exact ⟨k + 1, by omega, by go_num, by first | (rw [HE5.out]; done) | (rw [HE5.out]; exact ret_eq2 (by omega))⟩
            case measure => simp [intOf]; omega
        · obtain rfl : k = sn := by omega
          rw [HZ.out]
          go_wp2_with fail
          go_ret
          exact ⟨rfl, HB5.out⟩

end Go.Proofs.Ythennmhmnimpfaa

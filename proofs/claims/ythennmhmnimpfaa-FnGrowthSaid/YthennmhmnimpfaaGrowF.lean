/- The law on growth: the least rate is enough and needed, and an amount has doubled when it should. -/
import Derived.Test.YthennmhmnimpfaaRates
import Derived.Test.YthennmhmnimpfaaIntD
namespace Go.Proofs.Ythennmhmnimpfaa
open Go.ChangeShapes Go.WideShapes Go.ChangeAt Go.RowKit
set_option linter.unusedVariables false
set_option maxRecDepth 100000

theorem dy_law (x : Int) (h : dyE x = 0) (h2 : 0 < dyV x) : gaE 1000000 x (dyV x - 1) = 0 ∧ gaV 1000000 x (dyV x - 1) < 2000000 ∧ dyV x ≤ 120 := by
  by_cases hr : rateB x = true
  · obtain ⟨r0, r1⟩ := (inB_iff _ _ _).1 hr
    by_cases hn : dyN x < 121
    · have hv : dyV x = dyN x := by simp [dyV, hr, hn]
      rw [hv] at h2 ⊢
      obtain ⟨k, hk⟩ : ∃ k, dyN x = k + 1 := ⟨dyN x - 1, by omega⟩
      have hm := lst_min (dyP x) 121 0 k (by omega) (by show k < dyN x; omega)
      have hg : grow 1000000 x k < 2000000 := by
        unfold dyP at hm
        rw [decide_eq_false_iff_not] at hm
        omega
      have e : ((dyN x : Nat) : Int) - 1 = (k : Int) := by omega
      rw [e]
      have hb : gaB 1000000 x k = true := (gaB_iff _ _ _).2 ⟨⟨by omega, by omega⟩, ⟨r0, r1⟩, ⟨by omega, by omega⟩⟩
      obtain ⟨h5, h6⟩ := ga_yes hb rfl (show grow 1000000 x k ≤ 1000000000000 by omega)
      rw [← h5, ← h6]
      exact ⟨rfl, hg, by omega⟩
    · simp [dyE, hr, hn] at h
  · simp [dyE, hr] at h

theorem rb_law (a l n : Int) (h : rbE a l n = 0) (h2 : ¬ rbV a l n = 0) : gaE a (rbV a l n - 1) n = 0 ∧ gaV a (rbV a l n - 1) n < l ∧ 1 ≤ rbV a l n ∧ rbV a l n ≤ 200 := by
  by_cases hr : rbB a l n = true
  · obtain ⟨⟨a0, a1⟩, ⟨l0, l1⟩, ⟨n0, n1⟩⟩ := (rbB_iff _ _ _).1 hr
    by_cases hn : rbN a l n < 201
    · have hv : rbV a l n = rbN a l n := by simp [rbV, hr, hn]
      rw [hv] at h2 ⊢
      obtain ⟨k, hk⟩ : ∃ k, rbN a l n = k + 1 := ⟨rbN a l n - 1, by omega⟩
      have hm := lst_min (rbP a l n.toNat) 201 0 k (by omega) (by show k < rbN a l n; omega)
      have hg : grow a k n.toNat < l := by
        unfold rbP at hm
        rw [decide_eq_false_iff_not] at hm
        omega
      have e : ((rbN a l n : Nat) : Int) - 1 = (k : Int) := by omega
      rw [e]
      have hb : gaB a k n = true := (gaB_iff _ _ _).2 ⟨⟨a0, a1⟩, ⟨by omega, by omega⟩, ⟨n0, n1⟩⟩
      have e2 : gaE a k n = 0 := by simp [gaE, hb]; omega
      have e3 : gaV a k n = grow a k n.toNat := by simp [gaV, hb]; omega
      rw [e2, e3]
      exact ⟨rfl, hg, by omega, by omega⟩
    · simp [rbE, hr, hn] at h
  · simp [rbE, hr] at h

theorem gr_split (x a l n : Int) : ∃ T D B R : Int, dyE x = T ∧ dyV x = D ∧ rbE a l n = B ∧ rbV a l n = R ∧
    ((T == 0) = false ∨ ((T == 0) = true ∧ ¬ 0 < D) ∨ ((T == 0) = true ∧ 0 < D ∧ gaE 1000000 x (D - 1) = 0 ∧ gaV 1000000 x (D - 1) < 2000000 ∧ D ≤ 120)) ∧
    ((B != 0) = true ∨ ((B != 0) = false ∧ (R == 0) = true) ∨ ((B != 0) = false ∧ (R == 0) = false ∧ gaE a (R - 1) n = 0 ∧ gaV a (R - 1) n < l ∧ 1 ≤ R ∧ R ≤ 200)) := by
  refine ⟨_, _, _, _, rfl, rfl, rfl, rfl, ?_, ?_⟩
  · by_cases h : dyE x = 0
    · by_cases h2 : 0 < dyV x
      · obtain ⟨h3, h4, h5⟩ := dy_law x h h2
        exact .inr (.inr ⟨by simpa using h, h2, h3, h4, h5⟩)
      · exact .inr (.inl ⟨by simpa using h, h2⟩)
    · exact .inl (by simpa using h)
  · by_cases h : rbE a l n = 0
    · by_cases h2 : rbV a l n = 0
      · exact .inr (.inl ⟨by simpa using h, by simpa using h2⟩)
      · obtain ⟨h3, h4, h5, h6⟩ := rb_law a l n h h2
        exact .inr (.inr ⟨by simpa using h, by simpa using h2, h3, h4, h5, h6⟩)
    · exact .inl (by simpa using h)

set_option maxHeartbeats 8000000 in
theorem fnGrowth_walk (a0 : Option Addr) (len0 cap0 : Nat) (z0 : List Int) (w : World) (w0 : IsRow .u8 w a0 len0 cap0 z0) :
    Calls Try.prog 5 #[.slice a0 len0 cap0] w fun e w' => e = .returned (.bool true) ∧ Below w.heap.size w w' := by
  by_cases hbig : (4096 : Int) < len0
  · go_enter Try.func5, Try.ntmps5
    go_wp2_with (go_at_call 14; refine (bigI_any _ _ _ _).mono ?_; rintro e w' ⟨rfl, rfl⟩)
    go_ret
    exact ⟨rfl, Below.refl _ _⟩
  · have HR := Lib.hid w0
    clear w0
    go_enter Try.func5, Try.ntmps5
    go_wp2_with (go_at_call 14; refine (bigI_any _ _ _ _).mono ?_; rintro e w' ⟨rfl, rfl⟩)
    refine (drawRBet _ _ _ _ _ HR.out).mono ?_
    rintro e w1 ⟨a, l, n, rfl, hb⟩
    have HB := Lib.hid hb
    have HR1 := Lib.hid (HR.out.below hb HR.out.apart)
    clear hb
    have ci := fun W => rb_impl a l n W
    have cs := fun W => rb_spec a l n W
    have CI := Lib.hid ci
    have CS := Lib.hid cs
    clear ci cs
    go_wp2_with (first | (go_at_call 32; refine (CI.out _).mono ?_; rintro e w' ⟨rfl, rfl⟩) | (go_at_call 33; refine (CS.out _).mono ?_; rintro e w' ⟨rfl, rfl⟩))
    refine (drawGA _ _ _ _ _ HR1.out).mono ?_
    rintro e w2 ⟨a2, r2, n2, rfl, hb⟩
    have HB2 := Lib.hid (HB.out.trans (hb.mono HB.out.size))
    have HR2 := Lib.hid (HR1.out.below hb HR1.out.apart)
    clear hb
    go_wp2_with (first | (go_at_call 35; refine (ga_impl a2 r2 n2 _).mono ?_; rintro e w' ⟨rfl, rfl⟩) | (go_at_call 36; refine (ga_spec a2 r2 n2 _).mono ?_; rintro e w' ⟨rfl, rfl⟩))
    refine (drawDYr _ _ _ _ _ HR2.out).mono ?_
    rintro e w3 ⟨x, rfl, hb⟩
    have HB3 := Lib.hid (HB2.out.trans (hb.mono HB2.out.size))
    clear hb
    obtain ⟨T, D, B, R, e1, e2, e3, e4, hT, hB⟩ := gr_split x a l n
    have ci := fun W => dy_impl x W
    have cs := fun W => dy_spec x W
    simp only [e1, e2] at ci cs
    rw [e3, e4]
    have CI2 := Lib.hid ci
    have CS2 := Lib.hid cs
    clear ci cs e1 e2 e3 e4 CI CS
    have hga := fun W => ga_impl 1000000 x (D - 1) W
    have hgb := fun W => ga_impl a (R - 1) n W
    rcases hT with hT | ⟨hT, hD⟩ | ⟨hT, hD, y1, y2, y3⟩ <;> rcases hB with hB | ⟨hB, hR⟩ | ⟨hB, hR, z1, z2, z3, z4⟩
    all_goals
      (try rw [y1] at hga)
      (try simp only [y1] at hga)
      (try simp only [z1] at hgb)
      have HGA := Lib.hid hga
      have HGB := Lib.hid hgb
      clear hga hgb
      (try (obtain ⟨Y, hY⟩ : ∃ Y, gaV 1000000 x (D - 1) = Y := ⟨_, rfl⟩; rw [hY] at y2; simp only [hY] at HGA; clear hY y1))
      (try (obtain ⟨Z, hZ⟩ : ∃ Z, gaV a (R - 1) n = Z := ⟨_, rfl⟩; rw [hZ] at z2; simp only [hZ] at HGB; clear hZ z1))
      go_wp2_with (first | (go_at_call 38; refine (CI2.out _).mono ?_; rintro e w' ⟨rfl, rfl⟩) | (go_at_call 39; refine (CS2.out _).mono ?_; rintro e w' ⟨rfl, rfl⟩) | (go_at_call 35; ((with_reducible refine (HGA.out _).mono ?_); rintro e w' ⟨rfl, rfl⟩)) | (go_at_call 35; ((with_reducible refine (HGB.out _).mono ?_); rintro e w' ⟨rfl, rfl⟩)))
      go_ret
      exact ⟨rfl, HB3.out⟩

end Go.Proofs.Ythennmhmnimpfaa

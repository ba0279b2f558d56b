/- The laws of chapter 1 on rounding and on common factors, over whatever the draws give. -/
import Derived.Test.YtjcedfafeakikaaDiv
import Derived.Test.YtjcedfafeakikaaGcd
import Derived.Test.YtjcedfafeakikaaDrawA
namespace Go.Proofs.Ytjcedfafeakikaa
open Go.ChangeShapes Go.WideShapes Go.ChangeAt Go.RowKit
set_option linter.unusedVariables false

theorem big_any (a : Option Addr) (l c : Nat) (w : World) : Calls Try.prog 12 #[.slice a l c] w fun e w' => e = .returned (.bool (decide (4096 < (l : Int)))) ∧ w = w' := by
  go_enter Try.func12, Try.ntmps12
  go_wp2
  go_ret
  exact ⟨rfl, rfl⟩

/-- what DivideDown and DivideUp of (a, b) answer: both 0 and an error; or the two bounds of the quotient -/
theorem dd_split (a b : Int) : (ddV a b = 0 ∧ duV a b = 0 ∧ ddE a b = 2) ∨
    ∃ q u : Int, ddV a b = q ∧ duV a b = u ∧ ddE a b = 0 ∧ -1000000000000 ≤ a ∧ a ≤ 1000000000000 ∧ 1 ≤ b ∧ b ≤ 1000000000 ∧ -1000000000000 ≤ q ∧ q ≤ 1000000000000 ∧ -1000000000000 ≤ u ∧ u ≤ 1000000000000 ∧
      q * b ≤ a ∧ a ≤ u * b ∧ -2000000000000 ≤ q * b ∧ u * b ≤ 2000000000000 ∧ (((u - q == 0) = true ∧ (a.tmod b == 0) = true ∧ u - q ≤ 1) ∨ ((u - q == 0) = false ∧ (a.tmod b == 0) = false ∧ u - q ≤ 1)) := by
  by_cases h : ddB a b = true
  · right
    obtain ⟨⟨h1, h2⟩, h3, h4⟩ := (ddB_iff a b).1 h
    obtain ⟨d1, d2⟩ := div_bd a b 1000000000000 h3 (by omega) h1 h2
    obtain ⟨d3, d4⟩ := div_bd (-a) b 1000000000000 h3 (by omega) (by omega) (by omega)
    have e1 := Int.mul_ediv_add_emod a b
    have e2 := Int.mul_ediv_add_emod (-a) b
    have r1 := Int.emod_nonneg a (show b ≠ 0 by omega)
    have r2 := Int.emod_lt_of_pos a (show 0 < b by omega)
    have r3 := Int.emod_nonneg (-a) (show b ≠ 0 by omega)
    have r4 := Int.emod_lt_of_pos (-a) (show 0 < b by omega)
    have hz : a.tmod b = 0 ↔ a % b = 0 := by rw [← Int.dvd_iff_tmod_eq_zero, ← Int.dvd_iff_emod_eq_zero]
    have hd : b * (-(-a / b) - a / b) = a % b + -a % b := by rw [Int.mul_sub, Int.mul_neg]; omega
    have g1 : -(-a / b) - a / b < 2 := by
      refine Int.lt_of_mul_lt_mul_left (a := b) ?_ (by omega); omega
    have g2 : -1 < -(-a / b) - a / b := by
      refine Int.lt_of_mul_lt_mul_left (a := b) ?_ (by omega); omega
    have hc : (-(-a / b) - a / b = 0 ∧ a.tmod b = 0) ∨ (-(-a / b) - a / b = 1 ∧ a.tmod b ≠ 0) := by
      have g3 : -(-a / b) - a / b = 0 ∨ -(-a / b) - a / b = 1 := by omega
      rcases g3 with g | g
      · left
        rw [g, Int.mul_zero] at hd
        exact ⟨g, hz.2 (by omega)⟩
      · right
        rw [g, Int.mul_one] at hd
        refine ⟨g, fun hh => ?_⟩
        have := hz.1 hh
        omega
    refine ⟨a / b, -(-a / b), by simp [ddV, h], by simp [duV, h], by simp [ddE, h], h1, h2, h3, h4, d1, d2, by omega, by omega, ?_, ?_, ?_, ?_, ?_⟩
    · rw [Int.mul_comm]; omega
    · rw [Int.neg_mul, Int.mul_comm]; omega
    · rw [Int.mul_comm]; omega
    · rw [Int.neg_mul, Int.mul_comm]; omega
    · rcases hc with ⟨g, h0⟩ | ⟨g, h0⟩
      · left; exact ⟨by simp [g], by simp [h0], by omega⟩
      · right; exact ⟨by simp [g], by simpa using h0, by omega⟩
  · left
    exact ⟨by simp [ddV, h], by simp [duV, h], by simp [ddE, h]⟩

theorem pm_split (a r : Int) : (pmV a r = 0 ∧ pmE a r = 2) ∨
    ∃ p : Int, pmV a r = p ∧ pmE a r = 0 ∧ -1000000000000 ≤ p ∧ p ≤ 1000000000000 ∧ -1000000000000000 ≤ a * r ∧ a * r ≤ 1000000000000000 ∧ 1000 * p ≤ a * r ∧ a * r < 1000 * (p + 1) := by
  by_cases h : pmB a r = true
  · right
    obtain ⟨⟨h1, h2⟩, h3, h4⟩ := (pmB_iff a r).1 h
    have hp1 : -1000000000000000 ≤ a * r := by
      have := Int.mul_le_mul_of_nonneg_right h1 h3; omega
    have hp2 : a * r ≤ 1000000000000000 := by
      have := Int.mul_le_mul_of_nonneg_right h2 h3; omega
    exact ⟨a * r / 1000, by simp [pmV, h], by simp [pmE, h], by omega, by omega, hp1, hp2, by omega, by omega⟩
  · left
    exact ⟨by simp [pmV, h], by simp [pmE, h]⟩

set_option maxHeartbeats 2000000 in
theorem fnRounding_walk (a0 : Option Addr) (len0 cap0 : Nat) (z0 : List Int) (w : World) (w0 : IsRow .u8 w a0 len0 cap0 z0) :
    Calls Try.prog 3 #[.slice a0 len0 cap0] w fun e w' => e = .returned (.bool true) ∧ Below w.heap.size w w' := by
  by_cases hbig : (4096 : Int) < len0
  · go_enter Try.func3, Try.ntmps3
    go_wp2_with (go_at_call 12; refine (big_any _ _ _ _).mono ?_; rintro e w' ⟨rfl, rfl⟩)
    go_ret
    exact ⟨rfl, Below.refl _ _⟩
  · have HR := Lib.hid w0
    clear w0
    go_enter Try.func3, Try.ntmps3
    go_wp2_with (first | (go_at_call 12; refine (big_any _ _ _ _).mono ?_; rintro e w' ⟨rfl, rfl⟩) | (go_at_call 13; refine (drawDD _ _ _ _ _ HR.out).mono ?_; rintro e w1 ⟨x, y, rfl, hb⟩; have HB := Lib.hid hb; have HR1 := Lib.hid (HR.out.below hb HR.out.apart); clear hb; rcases dd_split x y with ⟨h1, h2, h3⟩ | ⟨q, u, h1, h2, h3, b1, b2, b3, b4, b5, b6, b7, b8, b9, b10, b11, b12, ⟨c1, c2, c3⟩ | ⟨c1, c2, c3⟩⟩) | (go_at_call 14; refine (dd_impl _ _ _).mono ?_; rintro e w' ⟨rfl, rfl⟩) | (go_at_call 15; refine (dd_spec _ _ _).mono ?_; rintro e w' ⟨rfl, rfl⟩) | (go_at_call 16; refine (du_impl _ _ _).mono ?_; rintro e w' ⟨rfl, rfl⟩) | (go_at_call 17; refine (du_spec _ _ _).mono ?_; rintro e w' ⟨rfl, rfl⟩) | (go_at_call 19; refine (pm_impl _ _ _).mono ?_; rintro e w' ⟨rfl, rfl⟩) | (go_at_call 20; refine (pm_spec _ _ _).mono ?_; rintro e w' ⟨rfl, rfl⟩) | (go_at_call 18; refine (drawPM _ _ _ _ _ HR1.out).mono ?_; rintro e w2 ⟨m, n, rfl, hb⟩; have HB := Lib.hid (HB.out.trans (hb.mono HB.out.size)); clear hb; rcases pm_split m n with ⟨k1, k2⟩ | ⟨p, k1, k2, d1, d2, d3, d4, d5, d6⟩))
    all_goals
      go_ret
      exact ⟨rfl, HB.out⟩

end Go.Proofs.Ytjcedfafeakikaa

/- The law of chapter 1 on common factors, over whatever the draws give. -/
import Derived.Test.YtjcedfafeakikaaRound
namespace Go.Proofs.Ytjcedfafeakikaa
open Go.ChangeShapes Go.WideShapes Go.ChangeAt Go.RowKit
set_option linter.unusedVariables false

theorem cf_split (a b : Int) : (cfV a b = 0 ∧ cfE a b = 2) ∨ (cfV a b = 0 ∧ cfE a b = 0 ∧ a = 0 ∧ b = 0) ∨
    ∃ g : Int, cfV a b = g ∧ cfE a b = 0 ∧ 0 < g ∧ 0 ≤ a ∧ 0 ≤ b ∧ a % g = 0 ∧ b % g = 0 ∧ cfV (a / g) (b / g) = 1 ∧ cfE (a / g) (b / g) = 0 ∧ IntKind.i64.wrap (a.tdiv g) = a / g ∧ IntKind.i64.wrap (b.tdiv g) = b / g := by
  by_cases h : cfB a b = true
  · have hh := h
    unfold cfB at hh
    rw [Bool.and_eq_true, inB_iff, inB_iff] at hh
    obtain ⟨⟨a0, a1⟩, b0, b1⟩ := hh
    right
    obtain ⟨x, rfl⟩ := Int.eq_ofNat_of_zero_le a0
    obtain ⟨y, rfl⟩ := Int.eq_ofNat_of_zero_le b0
    have hv : cfV x y = ((Nat.gcd x y : Nat) : Int) := by simp [cfV, h, gcdI]
    have he : cfE x y = 0 := by simp [cfE, h]
    by_cases hz : Nat.gcd x y = 0
    · left
      obtain ⟨hx, hy⟩ := Nat.gcd_eq_zero_iff.1 hz
      exact ⟨by rw [hv, hz]; rfl, he, by omega, by omega⟩
    · right
      have hg : 0 < Nat.gcd x y := by omega
      have hc : Nat.gcd (x / Nat.gcd x y) (y / Nat.gcd x y) = 1 := Nat.coprime_div_gcd_div_gcd hg
      have l1 : x / Nat.gcd x y ≤ x := Nat.div_le_self _ _
      have l2 : y / Nat.gcd x y ≤ y := Nat.div_le_self _ _
      have m1 := Nat.mod_eq_zero_of_dvd (Nat.gcd_dvd_left x y)
      have m2 := Nat.mod_eq_zero_of_dvd (Nat.gcd_dvd_right x y)
      obtain ⟨p, e1⟩ : ∃ p : Nat, x / Nat.gcd x y = p := ⟨_, rfl⟩
      obtain ⟨q, e2⟩ : ∃ q : Nat, y / Nat.gcd x y = q := ⟨_, rfl⟩
      have f1 : (x : Int) / ((Nat.gcd x y : Nat) : Int) = (p : Int) := by rw [← e1]; simp
      have f2 : (y : Int) / ((Nat.gcd x y : Nat) : Int) = (q : Int) := by rw [← e2]; simp
      rw [e1] at hc l1
      rw [e2] at hc l2
      have hB : cfB (p : Int) (q : Int) = true := by
        unfold cfB; rw [Bool.and_eq_true, inB_iff, inB_iff]; omega
      refine ⟨_, hv, he, by omega, a0, b0, by omega, by omega, ?_, ?_, ?_, ?_⟩
      · rw [f1, f2]; simp [cfV, hB, gcdI, hc]
      · rw [f1, f2]; simp [cfE, hB]
      · rw [Int.tdiv_eq_ediv_of_nonneg a0, f1]; exact IntWalk.i64_in _ (by omega)
      · rw [Int.tdiv_eq_ediv_of_nonneg b0, f2]; exact IntWalk.i64_in _ (by omega)
  · left
    exact ⟨by simp [cfV, h], by simp [cfE, h]⟩

set_option maxHeartbeats 1000000 in
theorem fnFactors_walk (a0 : Option Addr) (len0 cap0 : Nat) (z0 : List Int) (w : World) (w0 : IsRow .u8 w a0 len0 cap0 z0) :
    Calls Try.prog 5 #[.slice a0 len0 cap0] w fun e w' => e = .returned (.bool true) ∧ Below w.heap.size w w' := by
  by_cases hbig : (4096 : Int) < len0
  · go_enter Try.func5, Try.ntmps5
    go_wp2_with (go_at_call 12; refine (big_any _ _ _ _).mono ?_; rintro e w' ⟨rfl, rfl⟩)
    go_ret
    exact ⟨rfl, Below.refl _ _⟩
  · have HR := Lib.hid w0
    clear w0
    go_enter Try.func5, Try.ntmps5
    go_wp2_with (first | (go_at_call 12; refine (big_any _ _ _ _).mono ?_; rintro e w' ⟨rfl, rfl⟩) | (go_at_call 26; refine (drawCF _ _ _ _ _ HR.out).mono ?_; rintro e w1 ⟨x, y, rfl, hb⟩; have HB := Lib.hid hb; clear hb; rcases cf_split x y with ⟨h1, h2⟩ | ⟨h1, h2, rfl, rfl⟩ | ⟨g, h1, h2, h3, h4, h5, h6, h7, h8, h9, q1, q2⟩) | (go_at_call 27; refine (cf_impl _ _ _).mono ?_; rintro e w2 ⟨rfl, hw⟩; have HB := Lib.hid (show Below w.heap.size w w2 by (obtain ⟨n, rfl⟩ := hw; exact below_drewN HB.out n)); clear hw) | (go_at_call 28; refine (cf_spec _ _ _).mono ?_; rintro e w' ⟨rfl, rfl⟩))
    · go_ret
      exact ⟨rfl, HB.out⟩
    · go_ret
      exact ⟨rfl, HB.out⟩
    · go_quiet ((go_at_call 27; exact Calls.quiet_of (cf_impl _ _ _)))
      go_wp2
      go_ret
      exact ⟨rfl, below_drewN HB.out _⟩

end Go.Proofs.Ytjcedfafeakikaa

/- Policies: the difference of two products divided, bit by bit (the model's way). (Written by wip/gen/pom.py.) -/
import Derived.Test.YtnclncglmnbelaaMdS
namespace Go.Proofs.Ytnclncglmnbelaa
open Go.ChangeShapes Go.WideShapes Go.ChangeAt Go.RowKit
set_option linter.unusedVariables false
set_option maxRecDepth 100000

/-- what is reckoned of the first bits stays small -/
theorem mi_bd (a b s c d Q q r : Int) (t : Nat) (b0 : 0 ≤ b) (c0 : 0 ≤ c) (d0 : 1 ≤ d) (Q0 : 0 ≤ Q) (h1 : -(Q * d) ≤ a * b - s * c) (h2 : a * b - s * c ≤ Q * d)
    (hI : a / 2 ^ t * b - s / 2 ^ t * c = q * d + r) (r0 : 0 ≤ r) (r1 : r < d) : -(Q + b) ≤ q ∧ q ≤ Q + c := by
  have hp : (0 : Int) < 2 ^ t := Int.pow_pos (by omega)
  obtain ⟨p, hpp⟩ : ∃ p : Int, (2 : Int) ^ t = p := ⟨_, rfl⟩
  rw [hpp] at hp hI
  have ea := Int.mul_ediv_add_emod a p
  have es := Int.mul_ediv_add_emod s p
  have a1 := Int.emod_nonneg a (show p ≠ 0 by omega)
  have s1 := Int.emod_nonneg s (show p ≠ 0 by omega)
  have a2 := Int.emod_lt_of_pos a hp
  have s2 := Int.emod_lt_of_pos s hp
  obtain ⟨A, hA⟩ : ∃ y, a / p = y := ⟨_, rfl⟩
  obtain ⟨S, hS⟩ : ∃ y, s / p = y := ⟨_, rfl⟩
  obtain ⟨α, hα⟩ : ∃ y, a % p = y := ⟨_, rfl⟩
  obtain ⟨σ, hσ⟩ : ∃ y, s % p = y := ⟨_, rfl⟩
  rw [hA, hα] at ea
  rw [hS, hσ] at es
  rw [hA, hS] at hI
  rw [hα] at a1 a2
  rw [hσ] at s1 s2
  obtain ⟨V, hV⟩ : ∃ y, A * b - S * c = y := ⟨_, rfl⟩
  have e1 : a * b = p * (A * b) + α * b := by rw [← ea, Int.add_mul, Int.mul_assoc]
  have e2 : s * c = p * (S * c) + σ * c := by rw [← es, Int.add_mul, Int.mul_assoc]
  have e3 : p * V = p * (A * b) - p * (S * c) := by rw [← hV, Int.mul_sub]
  have m1 : α * b ≤ p * b := Int.mul_le_mul_of_nonneg_right (by omega) b0
  have m2 : σ * c ≤ p * c := Int.mul_le_mul_of_nonneg_right (by omega) c0
  have m3 : 0 ≤ α * b := Int.mul_nonneg a1 b0
  have m4 : 0 ≤ σ * c := Int.mul_nonneg s1 c0
  have m5 : Q * d ≤ p * (Q * d) := by
    have := Int.mul_le_mul_of_nonneg_right (show (1 : Int) ≤ p by omega) (Int.mul_nonneg Q0 (show 0 ≤ d by omega))
    rwa [Int.one_mul] at this
  have u1 : V ≤ Q * d + c := by
    refine Int.le_of_mul_le_mul_left (a := p) ?_ hp
    rw [Int.mul_add]; omega
  have u2 : -(Q * d) - b ≤ V := by
    refine Int.le_of_mul_le_mul_left (a := p) ?_ hp
    rw [Int.mul_sub, Int.mul_neg]; omega
  have c1 : c ≤ c * d := by
    have := Int.mul_le_mul_of_nonneg_left d0 c0
    rwa [Int.mul_one] at this
  have b1 : b ≤ b * d := by
    have := Int.mul_le_mul_of_nonneg_left d0 b0
    rwa [Int.mul_one] at this
  constructor
  · have : -(Q + b) * d < (q + 1) * d := by rw [Int.neg_mul, Int.add_mul, Int.add_mul]; omega
    have := Int.lt_of_mul_lt_mul_right this (by omega)
    omega
  · refine Int.le_of_mul_le_mul_right (a := d) ?_ (by omega)
    rw [Int.add_mul]; omega

/-- one more bit of both factors -/
theorem mi_step (A D S E da ds b c d q r B1 B2 C1 C2 : Int) (hI : A * b - S * c = q * d + r) (hD : D = 2 * A + da) (hE : E = 2 * S + ds) (hB : d * B1 + B2 = b) (hC : d * C1 + C2 = c) :
    D * b - E * c = (2 * q + da * B1 - ds * C1) * d + (2 * r + da * B2 - ds * C2) := by
  subst hD hE
  have e1 : (2 * A + da) * b = 2 * (A * b) + da * b := by rw [Int.add_mul, Int.mul_assoc]
  have e2 : (2 * S + ds) * c = 2 * (S * c) + ds * c := by rw [Int.add_mul, Int.mul_assoc]
  have e3 : da * b = d * (da * B1) + da * B2 := by rw [← hB, Int.mul_add, Int.mul_left_comm]
  have e4 : ds * c = d * (ds * C1) + ds * C2 := by rw [← hC, Int.mul_add, Int.mul_left_comm]
  have e5 : (2 * q + da * B1 - ds * C1) * d = 2 * (q * d) + d * (da * B1) - d * (ds * C1) := by
    rw [Int.sub_mul, Int.add_mul, Int.mul_assoc, Int.mul_comm (da * B1) d, Int.mul_comm (ds * C1) d]
  rw [e1, e2, e3, e4, e5]
  omega

/-! ### the walk -/

end Go.Proofs.Ytnclncglmnbelaa

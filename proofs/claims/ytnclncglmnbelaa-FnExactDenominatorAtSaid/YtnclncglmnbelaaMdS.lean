/- A product divided exactly: the model's way, bit by bit. -/
import Derived.Test.YtnclncglmnbelaaNums
namespace Go.Proofs.Ytnclncglmnbelaa
open Go.ChangeShapes Go.WideShapes Go.ChangeAt Go.RowKit
set_option linter.unusedVariables false
set_option maxRecDepth 100000

def mdQ (a b c : Int) : Int := if a * b / c ≤ 1000000000000000000 then a * b / c else 2000000000000000000
def mdR (a b c : Int) : Int := if a * b / c ≤ 1000000000000000000 then a * b % c else 0

/-- one more bit of the first factor -/
theorem md_step (A D d b c q r B1 B2 U1 U2 : Int) (hI : A * b = q * c + r) (hD : D = 2 * A + d) (hB : c * B1 + B2 = b) (hU : c * U1 + U2 = 2 * r + d * B2) :
    D * b = (2 * q + d * B1 + U1) * c + U2 := by
  have e1 : D * b = 2 * (A * b) + d * b := by rw [hD, Int.add_mul, Int.mul_assoc]
  have e2 : d * b = d * (c * B1) + d * B2 := by rw [← Int.mul_add, hB]
  have e3 : (2 * q + d * B1 + U1) * c = 2 * (q * c) + d * (c * B1) + c * U1 := by
    rw [Int.add_mul, Int.add_mul, Int.mul_assoc, Int.mul_assoc, Int.mul_comm B1 c, Int.mul_comm U1 c]
  rw [e1, e2, e3, hI]
  omega

theorem md_uniq (p c q r : Int) (h : p = q * c + r) (r0 : 0 ≤ r) (r1 : r < c) : p / c = q ∧ p % c = r := by
  subst h
  constructor
  · rw [Int.add_comm, Int.add_mul_ediv_right _ _ (by omega), Int.ediv_eq_zero_of_lt r0 r1]; omega
  · rw [Int.add_comm, Int.add_mul_emod_self_right, Int.emod_eq_of_lt r0 r1]

theorem md_small (a b c : Int) (h : a * b / c ≤ 1000000000000000000) : mdQ a b c = a * b / c ∧ mdR a b c = a * b % c := by simp [mdQ, mdR, h]

theorem md_large (a b c : Int) (h : 1000000000000000000 < a * b / c) : mdQ a b c = 2000000000000000000 ∧ mdR a b c = 0 := by
  have h' : ¬ a * b / c ≤ 1000000000000000000 := by omega
  simp only [mdQ, mdR, if_neg h', and_self]

/-- a quotient that is too great already stays so -/
theorem md_over (a b c D q r : Int) (h : D * b = q * c + r) (hD : D ≤ a) (b0 : 0 ≤ b) (c0 : 1 ≤ c) (r0 : 0 ≤ r) (hq : 1000000000000000000 < q) : 1000000000000000000 < a * b / c := by
  have h1 : D * b ≤ a * b := Int.mul_le_mul_of_nonneg_right hD b0
  have h2 : q ≤ a * b / c := Int.le_ediv_of_mul_le (by omega) (by omega)
  omega

theorem div_bit (a : Int) (t : Nat) (a0 : 0 ≤ a) : a / 2 ^ t = 2 * (a / 2 ^ (t + 1)) + a / 2 ^ t % 2 := by
  have h : a / 2 ^ (t + 1) = a / 2 ^ t / 2 := by
    rw [Int.pow_succ, Int.ediv_ediv_of_nonneg]
    exact Int.pow_nonneg (by omega)
  rw [h]; omega

theorem div_le_self' (a : Int) (t : Nat) (a0 : 0 ≤ a) : 0 ≤ a / 2 ^ t ∧ a / 2 ^ t ≤ a :=
  ⟨Int.ediv_nonneg a0 (Int.pow_nonneg (by omega)), Int.ediv_le_self _ a0⟩

end Go.Proofs.Ytnclncglmnbelaa

/- A product divided exactly: the model's way, bit by bit. -/
import Derived.Test.YtnclncglmnbelaaGreatNums
namespace Go.Proofs.YtnclncglmnbelaaGreat
open Go.ChangeShapes Go.WideShapes Go.ChangeAt Go.RowKit
set_option linter.unusedVariables false
set_option maxRecDepth 100000

def mdQ (a b c : Int) : Int := if a * b / c ≤ 1000000000000000000 then a * b / c else 2000000000000000000
def mdR (a b c : Int) : Int := if a * b / c ≤ 1000000000000000000 then a * b % c else 0

/-- one more bit of the first factor -/
theorem md_step (A D d b c q r B1 B2 U1 U2 : Int) (hI : A * b = q * c + r) (hD : D = 2 * A + d) (hB : c * B1 + B2 = b) (hU : c * U1 + U2 = 2 * r + d * B2) :
    D * b = (2 * q + d * B1 + U1) * c + U2 := by
  have e1 : D * b = 2 * (A * b) + d * b := by rw [hD, Int.add_mul, Int.mul_assoc]
  have e2 : d * b = d * (c * B1) + d * B2 := by rw [← Int.mul_add, hB]
  have e3 : (2 * q + d * B1 + U1) * c = 2 * (q * c) + d * (c * B1) + c * U1 := by
    rw [Int.add_mul, Int.add_mul, Int.mul_assoc, Int.mul_assoc, Int.mul_comm B1 c, Int.mul_comm U1 c]
  rw [e1, e2, e3, hI]
  omega

theorem md_uniq (p c q r : Int) (h : p = q * c + r) (r0 : 0 ≤ r) (r1 : r < c) : p / c = q ∧ p % c = r := by
  subst h
  constructor
  · rw [Int.add_comm, Int.add_mul_ediv_right _ _ (by omega), Int.ediv_eq_zero_of_lt r0 r1]; omega
  · rw [Int.add_comm, Int.add_mul_emod_self_right, Int.emod_eq_of_lt r0 r1]

theorem md_small (a b c : Int) (h : a * b / c ≤ 1000000000000000000) : mdQ a b c = a * b / c ∧ mdR a b c = a * b % c := by simp [mdQ, mdR, h]

theorem md_large (a b c : Int) (h : 1000000000000000000 < a * b / c) : mdQ a b c = 2000000000000000000 ∧ mdR a b c = 0 := by
  have h' : ¬ a * b / c ≤ 1000000000000000000 := by omega
  simp only [mdQ, mdR, if_neg h', and_self]

/-- a quotient that is too great already stays so -/
theorem md_over (a b c D q r : Int) (h : D * b = q * c + r) (hD : D ≤ a) (b0 : 0 ≤ b) (c0 : 1 ≤ c) (r0 : 0 ≤ r) (hq : 1000000000000000000 < q) : 1000000000000000000 < a * b / c := by
  have h1 : D * b ≤ a * b := Int.mul_le_mul_of_nonneg_right hD b0
  have h2 : q ≤ a * b / c := Int.le_ediv_of_mul_le (by omega) (by omega)
  omega

theorem div_bit (a : Int) (t : Nat) (a0 : 0 ≤ a) : a / 2 ^ t = 2 * (a / 2 ^ (t + 1)) + a / 2 ^ t % 2 := by
  have h : a / 2 ^ (t + 1) = a / 2 ^ t / 2 := by
    rw [Int.pow_succ, Int.ediv_ediv_of_nonneg]
    exact Int.pow_nonneg (by omega)
  rw [h]; omega

theorem div_le_self' (a : Int) (t : Nat) (a0 : 0 ≤ a) : 0 ≤ a / 2 ^ t ∧ a / 2 ^ t ≤ a :=
  ⟨Int.ediv_nonneg a0 (Int.pow_nonneg (by omega)), Int.ediv_le_self _ a0⟩

set_option maxHeartbeats 1000000 in
theorem sdiv_any (a b c : Int) (w : World) (a0 : 0 ≤ a) (a1 : a ≤ 1000000000000) (b0 : 0 ≤ b) (b1 : b ≤ 1000000000000000000) (c0 : 1 ≤ c) (c1 : c ≤ 1000000000000000000) :
    Calls Tryz.prog 121 #[.int .i64 a, .int .i64 b, .int .i64 c] w fun e w' => e = .returned (.tuple #[.int .i64 (mdQ a b c), .int .i64 (mdR a b c)]) ∧ w = w' := by
  have H0 : Hid (a / 2 ^ 42 * b = 0 * c + 0) := Lib.hid (by rw [Int.ediv_eq_zero_of_lt a0 (by omega)]; simp)
  go_enter Tryz.func121, Tryz.ntmps121
  go_wp2_with fail
  go_loop [8, 9, 10] (fun x y i => ∃ (s : Nat) (q r : Int), s ≤ 42 ∧ i = .int .i64 ((s : Int) - 1) ∧ x = .int .i64 q ∧ y = .int .i64 r ∧ 0 ≤ q ∧ q ≤ 1000000000000000000 ∧ 0 ≤ r ∧ r < c ∧ Hid (a / 2 ^ s * b = q * c + r)) (fun _ _ i => (intOf i + 1).toNat)
  case atStart => exact ⟨42, 0, 0, by omega, rfl, rfl, rfl, by omega, by omega, by omega, by omega, H0⟩
  case round =>
    clear H0
    obtain ⟨s, q, r, s1, rfl, rfl, rfl, q0, q1, r0, r1, HI⟩ := hrel
    by_cases hs : 0 < s
    · obtain ⟨t, rfl⟩ : ∃ t, s = t + 1 := ⟨s - 1, by omega⟩
      rw [show ((t + 1 : Nat) : Int) - 1 = (t : Int) by omega]
      have hcz : c ≠ 0 := by omega
      have hbit := div_bit a t a0
      obtain ⟨d0, d1⟩ := div_le_self' a t a0
      obtain ⟨A, hA⟩ : ∃ A, a / 2 ^ (t + 1) = A := ⟨_, rfl⟩
      obtain ⟨D, hD⟩ : ∃ A, a / 2 ^ t = A := ⟨_, rfl⟩
      rw [hA, hD] at hbit
      rw [hA] at HI
      rw [hD] at d0 d1
      obtain ⟨B1, hB1⟩ : ∃ B, b / c = B := ⟨_, rfl⟩
      obtain ⟨B2, hB2⟩ : ∃ B, b % c = B := ⟨_, rfl⟩
      have hB := Int.mul_ediv_add_emod b c
      have hB0 : 0 ≤ B1 := by rw [← hB1]; exact Int.ediv_nonneg b0 (by omega)
      have hB3 : B1 ≤ 1000000000000000000 := by rw [← hB1]; exact Int.le_trans (Int.ediv_le_self _ b0) b1
      have hB4 : 0 ≤ B2 := by rw [← hB2]; exact Int.emod_nonneg _ hcz
      have hB5 : B2 < c := by rw [← hB2]; exact Int.emod_lt_of_pos _ (by omega)
      rw [hB1, hB2] at hB
      have HBB := Lib.hid hB
      have HDD := Lib.hid hbit
      clear hB hbit hA
      have htm : D.tmod 2 = D % 2 := Int.tmod_eq_emod_of_nonneg d0
      by_cases hd : D % 2 = 1
      · obtain ⟨U1, hU1⟩ : ∃ B, (2 * r + B2) / c = B := ⟨_, rfl⟩
        obtain ⟨U2, hU2⟩ : ∃ B, (2 * r + B2) % c = B := ⟨_, rfl⟩
        have hU := Int.mul_ediv_add_emod (2 * r + B2) c
        have hU0 : 0 ≤ U1 := by rw [← hU1]; exact Int.ediv_nonneg (by omega) (by omega)
        have hU3 : U1 ≤ 2 := Int.lt_add_one_iff.1 (by rw [← hU1]; exact Int.ediv_lt_of_lt_mul (by omega) (by omega))
        have hU4 : 0 ≤ U2 := by rw [← hU2]; exact Int.emod_nonneg _ hcz
        have hU5 : U2 < c := by rw [← hU2]; exact Int.emod_lt_of_pos _ (by omega)
        rw [hU1, hU2] at hU
        have HS := Lib.hid (md_step A D 1 b c q r B1 B2 U1 U2 HI.out (by have := HDD.out; omega) HBB.out (by omega))
        clear hU
        by_cases hov : 1000000000000000000 < 2 * q + B1 + U1
        · have HO := Lib.hid (md_over a b c D (2 * q + B1 + U1) U2 (by have := HS.out; rw [Int.one_mul] at this; exact this) d1 b0 c0 hU4 hov)
          go_wp2_with fail
          go_ret2
          obtain ⟨e1, e2⟩ := md_large a b c HO.out
          rw [e1, e2]
          exact ⟨rfl, rfl⟩
        · have HS := Lib.hid (show D * b = (2 * q + B1 + U1) * c + U2 by have := HS.out; rw [Int.one_mul] at this; exact this)
          have HDt := Lib.hid hD
          go_wp2_with fail
          go_round
          case rel => exact ⟨t, _, _, by omega, rfl, rfl, rfl, by omega, by omega, by omega, by omega, Lib.hid (by rw [HDt.out, hU2]; exact HS.out)⟩
          case measure => simp [intOf]
      · have hd2 : D % 2 = 0 := by omega
        obtain ⟨U1, hU1⟩ : ∃ B, (2 * r) / c = B := ⟨_, rfl⟩
        obtain ⟨U2, hU2⟩ : ∃ B, (2 * r) % c = B := ⟨_, rfl⟩
        have hU := Int.mul_ediv_add_emod (2 * r) c
        have hU0 : 0 ≤ U1 := by rw [← hU1]; exact Int.ediv_nonneg (by omega) (by omega)
        have hU3 : U1 ≤ 2 := Int.lt_add_one_iff.1 (by rw [← hU1]; exact Int.ediv_lt_of_lt_mul (by omega) (by omega))
        have hU4 : 0 ≤ U2 := by rw [← hU2]; exact Int.emod_nonneg _ hcz
        have hU5 : U2 < c := by rw [← hU2]; exact Int.emod_lt_of_pos _ (by omega)
        rw [hU1, hU2] at hU
        have HS := Lib.hid (md_step A D 0 b c q r B1 B2 U1 U2 HI.out (by have := HDD.out; omega) HBB.out (by omega))
        clear hU
        have HS := Lib.hid (show D * b = (2 * q + U1) * c + U2 by have := HS.out; rw [Int.zero_mul, Int.add_zero] at this; exact this)
        by_cases hov : 1000000000000000000 < 2 * q + U1
        · have HO := Lib.hid (md_over a b c D (2 * q + U1) U2 HS.out d1 b0 c0 hU4 hov)
          go_wp2_with fail
          go_ret2
          obtain ⟨e1, e2⟩ := md_large a b c HO.out
          rw [e1, e2]
          exact ⟨rfl, rfl⟩
        · have HDt := Lib.hid hD
          go_wp2_with fail
          go_round
          case rel => exact ⟨t, _, _, by omega, rfl, rfl, rfl, by omega, by omega, by omega, by omega, Lib.hid (by rw [HDt.out, hU2]; exact HS.out)⟩
          case measure => simp [intOf]
    · obtain rfl : s = 0 := by omega
      have HE := Lib.hid (md_uniq (a * b) c q r (by have := HI.out; rw [Int.pow_zero, Int.ediv_one] at this; exact this) r0 r1)
      go_wp2_with fail
      go_ret2
      obtain ⟨e1, e2⟩ := HE.out
      obtain ⟨e3, e4⟩ := md_small a b c (by omega)
      rw [e3, e4, e1, e2]
      exact ⟨rfl, rfl⟩

end Go.Proofs.YtnclncglmnbelaaGreat

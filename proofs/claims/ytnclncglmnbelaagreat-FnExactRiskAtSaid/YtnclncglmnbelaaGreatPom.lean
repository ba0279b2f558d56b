/- Policies: the difference of two products divided, bit by bit (the model's way). (Written by wip/gen/pom.py.) -/
import Derived.Test.YtnclncglmnbelaaGreatMdS
namespace Go.Proofs.YtnclncglmnbelaaGreat
open Go.ChangeShapes Go.WideShapes Go.ChangeAt Go.RowKit
set_option linter.unusedVariables false
set_option maxRecDepth 100000

/-- what is reckoned of the first bits stays small -/
theorem mi_bd (a b s c d Q q r : Int) (t : Nat) (b0 : 0 ≤ b) (c0 : 0 ≤ c) (d0 : 1 ≤ d) (Q0 : 0 ≤ Q) (h1 : -(Q * d) ≤ a * b - s * c) (h2 : a * b - s * c ≤ Q * d)
    (hI : a / 2 ^ t * b - s / 2 ^ t * c = q * d + r) (r0 : 0 ≤ r) (r1 : r < d) : -(Q + b) ≤ q ∧ q ≤ Q + c := by
  have hp : (0 : Int) < 2 ^ t := Int.pow_pos (by omega)
  obtain ⟨p, hpp⟩ : ∃ p : Int, (2 : Int) ^ t = p := ⟨_, rfl⟩
  rw [hpp] at hp hI
  have ea := Int.mul_ediv_add_emod a p
  have es := Int.mul_ediv_add_emod s p
  have a1 := Int.emod_nonneg a (show p ≠ 0 by omega)
  have s1 := Int.emod_nonneg s (show p ≠ 0 by omega)
  have a2 := Int.emod_lt_of_pos a hp
  have s2 := Int.emod_lt_of_pos s hp
  obtain ⟨A, hA⟩ : ∃ y, a / p = y := ⟨_, rfl⟩
  obtain ⟨S, hS⟩ : ∃ y, s / p = y := ⟨_, rfl⟩
  obtain ⟨α, hα⟩ : ∃ y, a % p = y := ⟨_, rfl⟩
  obtain ⟨σ, hσ⟩ : ∃ y, s % p = y := ⟨_, rfl⟩
  rw [hA, hα] at ea
  rw [hS, hσ] at es
  rw [hA, hS] at hI
  rw [hα] at a1 a2
  rw [hσ] at s1 s2
  obtain ⟨V, hV⟩ : ∃ y, A * b - S * c = y := ⟨_, rfl⟩
  have e1 : a * b = p * (A * b) + α * b := by rw [← ea, Int.add_mul, Int.mul_assoc]
  have e2 : s * c = p * (S * c) + σ * c := by rw [← es, Int.add_mul, Int.mul_assoc]
  have e3 : p * V = p * (A * b) - p * (S * c) := by rw [← hV, Int.mul_sub]
  have m1 : α * b ≤ p * b := Int.mul_le_mul_of_nonneg_right (by omega) b0
  have m2 : σ * c ≤ p * c := Int.mul_le_mul_of_nonneg_right (by omega) c0
  have m3 : 0 ≤ α * b := Int.mul_nonneg a1 b0
  have m4 : 0 ≤ σ * c := Int.mul_nonneg s1 c0
  have m5 : Q * d ≤ p * (Q * d) := by
    have := Int.mul_le_mul_of_nonneg_right (show (1 : Int) ≤ p by omega) (Int.mul_nonneg Q0 (show 0 ≤ d by omega))
    rwa [Int.one_mul] at this
  have u1 : V ≤ Q * d + c := by
    refine Int.le_of_mul_le_mul_left (a := p) ?_ hp
    rw [Int.mul_add]; omega
  have u2 : -(Q * d) - b ≤ V := by
    refine Int.le_of_mul_le_mul_left (a := p) ?_ hp
    rw [Int.mul_sub, Int.mul_neg]; omega
  have c1 : c ≤ c * d := by
    have := Int.mul_le_mul_of_nonneg_left d0 c0
    rwa [Int.mul_one] at this
  have b1 : b ≤ b * d := by
    have := Int.mul_le_mul_of_nonneg_left d0 b0
    rwa [Int.mul_one] at this
  constructor
  · have : -(Q + b) * d < (q + 1) * d := by rw [Int.neg_mul, Int.add_mul, Int.add_mul]; omega
    have := Int.lt_of_mul_lt_mul_right this (by omega)
    omega
  · refine Int.le_of_mul_le_mul_right (a := d) ?_ (by omega)
    rw [Int.add_mul]; omega

/-- one more bit of both factors -/
theorem mi_step (A D S E da ds b c d q r B1 B2 C1 C2 : Int) (hI : A * b - S * c = q * d + r) (hD : D = 2 * A + da) (hE : E = 2 * S + ds) (hB : d * B1 + B2 = b) (hC : d * C1 + C2 = c) :
    D * b - E * c = (2 * q + da * B1 - ds * C1) * d + (2 * r + da * B2 - ds * C2) := by
  subst hD hE
  have e1 : (2 * A + da) * b = 2 * (A * b) + da * b := by rw [Int.add_mul, Int.mul_assoc]
  have e2 : (2 * S + ds) * c = 2 * (S * c) + ds * c := by rw [Int.add_mul, Int.mul_assoc]
  have e3 : da * b = d * (da * B1) + da * B2 := by rw [← hB, Int.mul_add, Int.mul_left_comm]
  have e4 : ds * c = d * (ds * C1) + ds * C2 := by rw [← hC, Int.mul_add, Int.mul_left_comm]
  have e5 : (2 * q + da * B1 - ds * C1) * d = 2 * (q * d) + d * (da * B1) - d * (ds * C1) := by
    rw [Int.sub_mul, Int.add_mul, Int.mul_assoc, Int.mul_comm (da * B1) d, Int.mul_comm (ds * C1) d]
  rw [e1, e2, e3, e4, e5]
  omega

/-! ### the walk -/

set_option maxHeartbeats 4000000 in
theorem sminus_any (a b s c d Q : Int) (w : World) (a0 : 0 ≤ a) (a1 : a ≤ 1000000000000) (s0 : 0 ≤ s) (s1 : s ≤ 1000000000000) (b0 : 0 ≤ b) (b1 : b ≤ 200000000000000000) (c0 : 0 ≤ c) (c1 : c ≤ 200000000000000000) (d0 : 1 ≤ d) (d1 : d ≤ 1000000000000000) (Q0 : 0 ≤ Q) (Q1 : Q ≤ 1000000000000000000)
    (h1 : -(Q * d) ≤ a * b - s * c) (h2 : a * b - s * c ≤ Q * d) :
    Calls Tryz.prog 56 #[.int .i64 a, .int .i64 b, .int .i64 s, .int .i64 c, .int .i64 d] w fun e w' => e = .returned (.tuple #[.int .i64 ((a * b - s * c) / d), .int .i64 ((a * b - s * c) % d)]) ∧ w = w' := by
  have H0 : Hid (a / 2 ^ 42 * b - s / 2 ^ 42 * c = 0 * d + 0) := Lib.hid (by rw [Int.ediv_eq_zero_of_lt a0 (by omega), Int.ediv_eq_zero_of_lt s0 (by omega)]; simp)
  have HB := Lib.hid (fun (q r : Int) (t : Nat) => mi_bd a b s c d Q q r t b0 c0 d0 Q0 h1 h2)
  have HQ := Lib.hid (md_uniq (a * b - s * c) d)
  obtain ⟨X, hX⟩ : ∃ y, (a * b - s * c) / d = y := ⟨_, rfl⟩
  obtain ⟨Y, hY⟩ : ∃ y, (a * b - s * c) % d = y := ⟨_, rfl⟩
  rw [hX, hY] at HQ ⊢
  have HW : Hid (a / 2 ^ 0 * b - s / 2 ^ 0 * c = a * b - s * c) := Lib.hid (by simp)
  clear h1 h2 hX hY
  go_enter Tryz.func56, Tryz.ntmps56
  go_wp2_with fail
  go_loop [12, 13, 14] (fun x y i => ∃ (t : Nat) (q r : Int), t ≤ 42 ∧ i = .int .i64 ((t : Int) - 1) ∧ x = .int .i64 q ∧ y = .int .i64 r ∧ 0 ≤ r ∧ r < d ∧ Hid (a / 2 ^ t * b - s / 2 ^ t * c = q * d + r)) (fun _ _ i => (intOf i + 1).toNat)
  case atStart => exact ⟨42, 0, 0, by omega, rfl, rfl, rfl, by omega, by omega, H0⟩
  case round =>
    clear H0
    obtain ⟨t, q, r, t1, rfl, rfl, rfl, r0, r1, HI⟩ := hrel
    obtain ⟨q0, q1⟩ := HB.out q r t HI.out r0 r1
    by_cases hs : 0 < t
    · obtain ⟨t, rfl⟩ : ∃ u, t = u + 1 := ⟨t - 1, by omega⟩
      rw [show ((t + 1 : Nat) : Int) - 1 = (t : Int) by omega]
      have hcz : d ≠ 0 := by omega
      have hbit := div_bit a t a0
      have hbis := div_bit s t s0
      obtain ⟨u0, u1⟩ := div_le_self' a t a0
      obtain ⟨v0, v1⟩ := div_le_self' s t s0
      obtain ⟨A, hA⟩ : ∃ A, a / 2 ^ (t + 1) = A := ⟨_, rfl⟩
      obtain ⟨D, hD⟩ : ∃ A, a / 2 ^ t = A := ⟨_, rfl⟩
      obtain ⟨S, hS⟩ : ∃ A, s / 2 ^ (t + 1) = A := ⟨_, rfl⟩
      obtain ⟨E, hE⟩ : ∃ A, s / 2 ^ t = A := ⟨_, rfl⟩
      rw [hA, hD] at hbit
      rw [hS, hE] at hbis
      rw [hA, hS] at HI
      rw [hD] at u0 u1
      rw [hE] at v0 v1
      obtain ⟨B1, hB1⟩ : ∃ B, b / d = B := ⟨_, rfl⟩
      obtain ⟨B2, hB2⟩ : ∃ B, b % d = B := ⟨_, rfl⟩
      obtain ⟨C1, hC1⟩ : ∃ B, c / d = B := ⟨_, rfl⟩
      obtain ⟨C2, hC2⟩ : ∃ B, c % d = B := ⟨_, rfl⟩
      have hB := Int.mul_ediv_add_emod b d
      have hC := Int.mul_ediv_add_emod c d
      have hB0 : 0 ≤ B1 := by rw [← hB1]; exact Int.ediv_nonneg b0 (by omega)
      have hB3 : B1 ≤ 200000000000000000 := by rw [← hB1]; exact Int.le_trans (Int.ediv_le_self _ b0) b1
      have hB4 : 0 ≤ B2 := by rw [← hB2]; exact Int.emod_nonneg _ hcz
      have hB5 : B2 < d := by rw [← hB2]; exact Int.emod_lt_of_pos _ (by omega)
      have hC0 : 0 ≤ C1 := by rw [← hC1]; exact Int.ediv_nonneg c0 (by omega)
      have hC3 : C1 ≤ 200000000000000000 := by rw [← hC1]; exact Int.le_trans (Int.ediv_le_self _ c0) c1
      have hC4 : 0 ≤ C2 := by rw [← hC2]; exact Int.emod_nonneg _ hcz
      have hC5 : C2 < d := by rw [← hC2]; exact Int.emod_lt_of_pos _ (by omega)
      rw [hB1, hB2] at hB
      rw [hC1, hC2] at hC
      have HBB := Lib.hid hB
      have HCC := Lib.hid hC
      have HDD := Lib.hid hbit
      have HEE := Lib.hid hbis
      clear hB hC hbit hbis hA hS
      have htm : D.tmod 2 = D % 2 := Int.tmod_eq_emod_of_nonneg u0
      have hts : E.tmod 2 = E % 2 := Int.tmod_eq_emod_of_nonneg v0
      have HDt := Lib.hid (show D * b - E * c = a / 2 ^ t * b - s / 2 ^ t * c by rw [hD, hE])
      by_cases hd : D % 2 = 1
      · by_cases he : E % 2 = 1
        · have HS := Lib.hid (show D * b - E * c = (2 * q + B1 - C1) * d + (2 * r + B2 - C2) by have := mi_step A D S E 1 1 b c d q r B1 B2 C1 C2 HI.out (by have := HDD.out; omega) (by have := HEE.out; omega) HBB.out HCC.out; simpa using this)
          go_wp2_with fail
          go_loop [12, 13] (fun x y => ∃ (g h : Int), x = .int .i64 g ∧ y = .int .i64 h ∧ -4000000000000000000 ≤ g + h ∧ -4000000000000000000 ≤ g ∧ g ≤ 3000000000000000000 ∧ -d < h ∧ h < 3 * d ∧ Hid (D * b - E * c = g * d + h)) (fun _ y => (d - intOf y).toNat)
          case atStart => exact ⟨_, _, rfl, rfl, by omega, by omega, by omega, by omega, by omega, HS⟩
          case round =>
            clear HS
            obtain ⟨g, h, rfl, rfl, g2, g0, g1, h0, h1, HS⟩ := hrel
            by_cases hneg : h < 0
            · have HS := Lib.hid (show D * b - E * c = (g - 1) * d + (h + d) by have := HS.out; rw [this, Int.sub_mul]; omega)
              go_wp2_with fail
              go_round
              case rel => exact ⟨_, _, rfl, rfl, by omega, by omega, by omega, by omega, by omega, HS⟩
              case measure => simp [intOf]; omega
            · go_wp2_with fail
              go_loop [12, 13] (fun x y => ∃ (g h : Int), x = .int .i64 g ∧ y = .int .i64 h ∧ -4000000000000000000 ≤ g + h ∧ -4000000000000000000 ≤ g ∧ g ≤ 3000000000000000000 + (3 * d - h) ∧ 0 ≤ h ∧ h < 3 * d ∧ Hid (D * b - E * c = g * d + h)) (fun _ y => (intOf y).toNat)
              case atStart => exact ⟨_, _, rfl, rfl, by omega, by omega, by omega, by omega, by omega, HS⟩
              case round =>
                clear HS
                obtain ⟨g, h, rfl, rfl, g2, g0, g1, h0, h1, HS⟩ := hrel
                by_cases hge : d ≤ h
                · have HS := Lib.hid (show D * b - E * c = (g + 1) * d + (h - d) by have := HS.out; rw [this, Int.add_mul]; omega)
                  go_wp2_with fail
                  go_round
                  case rel => exact ⟨_, _, rfl, rfl, by omega, by omega, by omega, by omega, by omega, HS⟩
                  case measure => simp [intOf]; omega
                · go_wp2_with fail
                  go_round
                  case rel => exact ⟨t, _, _, by omega, rfl, rfl, rfl, by omega, by omega, Lib.hid (HDt.out.symm.trans HS.out)⟩
                  case measure => simp [intOf]
        · have he2 : E % 2 = 0 := by omega
          have HS := Lib.hid (show D * b - E * c = (2 * q + B1) * d + (2 * r + B2) by have := mi_step A D S E 1 0 b c d q r B1 B2 C1 C2 HI.out (by have := HDD.out; omega) (by have := HEE.out; omega) HBB.out HCC.out; simpa using this)
          go_wp2_with fail
          go_loop [12, 13] (fun x y => ∃ (g h : Int), x = .int .i64 g ∧ y = .int .i64 h ∧ -4000000000000000000 ≤ g + h ∧ -4000000000000000000 ≤ g ∧ g ≤ 3000000000000000000 ∧ -d < h ∧ h < 3 * d ∧ Hid (D * b - E * c = g * d + h)) (fun _ y => (d - intOf y).toNat)
          case atStart => exact ⟨_, _, rfl, rfl, by omega, by omega, by omega, by omega, by omega, HS⟩
          case round =>
            clear HS
            obtain ⟨g, h, rfl, rfl, g2, g0, g1, h0, h1, HS⟩ := hrel
            by_cases hneg : h < 0
            · have HS := Lib.hid (show D * b - E * c = (g - 1) * d + (h + d) by have := HS.out; rw [this, Int.sub_mul]; omega)
              go_wp2_with fail
              go_round
              case rel => exact ⟨_, _, rfl, rfl, by omega, by omega, by omega, by omega, by omega, HS⟩
              case measure => simp [intOf]; omega
            · go_wp2_with fail
              go_loop [12, 13] (fun x y => ∃ (g h : Int), x = .int .i64 g ∧ y = .int .i64 h ∧ -4000000000000000000 ≤ g + h ∧ -4000000000000000000 ≤ g ∧ g ≤ 3000000000000000000 + (3 * d - h) ∧ 0 ≤ h ∧ h < 3 * d ∧ Hid (D * b - E * c = g * d + h)) (fun _ y => (intOf y).toNat)
              case atStart => exact ⟨_, _, rfl, rfl, by omega, by omega, by omega, by omega, by omega, HS⟩
              case round =>
                clear HS
                obtain ⟨g, h, rfl, rfl, g2, g0, g1, h0, h1, HS⟩ := hrel
                by_cases hge : d ≤ h
                · have HS := Lib.hid (show D * b - E * c = (g + 1) * d + (h - d) by have := HS.out; rw [this, Int.add_mul]; omega)
                  go_wp2_with fail
                  go_round
                  case rel => exact ⟨_, _, rfl, rfl, by omega, by omega, by omega, by omega, by omega, HS⟩
                  case measure => simp [intOf]; omega
                · go_wp2_with fail
                  go_round
                  case rel => exact ⟨t, _, _, by omega, rfl, rfl, rfl, by omega, by omega, Lib.hid (HDt.out.symm.trans HS.out)⟩
                  case measure => simp [intOf]
      · have hd2 : D % 2 = 0 := by omega
        by_cases he : E % 2 = 1
        · have HS := Lib.hid (show D * b - E * c = (2 * q - C1) * d + (2 * r - C2) by have := mi_step A D S E 0 1 b c d q r B1 B2 C1 C2 HI.out (by have := HDD.out; omega) (by have := HEE.out; omega) HBB.out HCC.out; simpa using this)
          go_wp2_with fail
          go_loop [12, 13] (fun x y => ∃ (g h : Int), x = .int .i64 g ∧ y = .int .i64 h ∧ -4000000000000000000 ≤ g + h ∧ -4000000000000000000 ≤ g ∧ g ≤ 3000000000000000000 ∧ -d < h ∧ h < 3 * d ∧ Hid (D * b - E * c = g * d + h)) (fun _ y => (d - intOf y).toNat)
          case atStart => exact ⟨_, _, rfl, rfl, by omega, by omega, by omega, by omega, by omega, HS⟩
          case round =>
            clear HS
            obtain ⟨g, h, rfl, rfl, g2, g0, g1, h0, h1, HS⟩ := hrel
            by_cases hneg : h < 0
            · have HS := Lib.hid (show D * b - E * c = (g - 1) * d + (h + d) by have := HS.out; rw [this, Int.sub_mul]; omega)
              go_wp2_with fail
              go_round
              case rel => exact ⟨_, _, rfl, rfl, by omega, by omega, by omega, by omega, by omega, HS⟩
              case measure => simp [intOf]; omega
            · go_wp2_with fail
              go_loop [12, 13] (fun x y => ∃ (g h : Int), x = .int .i64 g ∧ y = .int .i64 h ∧ -4000000000000000000 ≤ g + h ∧ -4000000000000000000 ≤ g ∧ g ≤ 3000000000000000000 + (3 * d - h) ∧ 0 ≤ h ∧ h < 3 * d ∧ Hid (D * b - E * c = g * d + h)) (fun _ y => (intOf y).toNat)
              case atStart => exact ⟨_, _, rfl, rfl, by omega, by omega, by omega, by omega, by omega, HS⟩
              case round =>
                clear HS
                obtain ⟨g, h, rfl, rfl, g2, g0, g1, h0, h1, HS⟩ := hrel
                by_cases hge : d ≤ h
                · have HS := Lib.hid (show D * b - E * c = (g + 1) * d + (h - d) by have := HS.out; rw [this, Int.add_mul]; omega)
                  go_wp2_with fail
                  go_round
                  case rel => exact ⟨_, _, rfl, rfl, by omega, by omega, by omega, by omega, by omega, HS⟩
                  case measure => simp [intOf]; omega
                · go_wp2_with fail
                  go_round
                  case rel => exact ⟨t, _, _, by omega, rfl, rfl, rfl, by omega, by omega, Lib.hid (HDt.out.symm.trans HS.out)⟩
                  case measure => simp [intOf]
        · have he2 : E % 2 = 0 := by omega
          have HS := Lib.hid (show D * b - E * c = (2 * q) * d + (2 * r) by have := mi_step A D S E 0 0 b c d q r B1 B2 C1 C2 HI.out (by have := HDD.out; omega) (by have := HEE.out; omega) HBB.out HCC.out; simpa using this)
          go_wp2_with fail
          go_loop [12, 13] (fun x y => ∃ (g h : Int), x = .int .i64 g ∧ y = .int .i64 h ∧ -4000000000000000000 ≤ g + h ∧ -4000000000000000000 ≤ g ∧ g ≤ 3000000000000000000 ∧ -d < h ∧ h < 3 * d ∧ Hid (D * b - E * c = g * d + h)) (fun _ y => (d - intOf y).toNat)
          case atStart => exact ⟨_, _, rfl, rfl, by omega, by omega, by omega, by omega, by omega, HS⟩
          case round =>
            clear HS
            obtain ⟨g, h, rfl, rfl, g2, g0, g1, h0, h1, HS⟩ := hrel
            by_cases hneg : h < 0
            · have HS := Lib.hid (show D * b - E * c = (g - 1) * d + (h + d) by have := HS.out; rw [this, Int.sub_mul]; omega)
              go_wp2_with fail
              go_round
              case rel => exact ⟨_, _, rfl, rfl, by omega, by omega, by omega, by omega, by omega, HS⟩
              case measure => simp [intOf]; omega
            · go_wp2_with fail
              go_loop [12, 13] (fun x y => ∃ (g h : Int), x = .int .i64 g ∧ y = .int .i64 h ∧ -4000000000000000000 ≤ g + h ∧ -4000000000000000000 ≤ g ∧ g ≤ 3000000000000000000 + (3 * d - h) ∧ 0 ≤ h ∧ h < 3 * d ∧ Hid (D * b - E * c = g * d + h)) (fun _ y => (intOf y).toNat)
              case atStart => exact ⟨_, _, rfl, rfl, by omega, by omega, by omega, by omega, by omega, HS⟩
              case round =>
                clear HS
                obtain ⟨g, h, rfl, rfl, g2, g0, g1, h0, h1, HS⟩ := hrel
                by_cases hge : d ≤ h
                · have HS := Lib.hid (show D * b - E * c = (g + 1) * d + (h - d) by have := HS.out; rw [this, Int.add_mul]; omega)
                  go_wp2_with fail
                  go_round
                  case rel => exact ⟨_, _, rfl, rfl, by omega, by omega, by omega, by omega, by omega, HS⟩
                  case measure => simp [intOf]; omega
                · go_wp2_with fail
                  go_round
                  case rel => exact ⟨t, _, _, by omega, rfl, rfl, rfl, by omega, by omega, Lib.hid (HDt.out.symm.trans HS.out)⟩
                  case measure => simp [intOf]
    · obtain rfl : t = 0 := by omega
      have HE := Lib.hid (HQ.out q r (by rw [← HW.out]; exact HI.out) r0 r1)
      go_wp2_with fail
      go_ret2
      obtain ⟨rfl, rfl⟩ := HE.out
      exact ⟨rfl, rfl⟩

end Go.Proofs.YtnclncglmnbelaaGreat

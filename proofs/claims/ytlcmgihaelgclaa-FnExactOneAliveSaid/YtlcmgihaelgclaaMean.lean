/- MeanPayments: the model's and the program's answer alike; what the years still lived are made of. -/
import Derived.Test.YtlcmgihaelgclaaExpI
namespace Go.Proofs.Ytlcmgihaelgclaa
open Go.ChangeShapes Go.WideShapes Go.ChangeAt Go.RowKit
set_option linter.unusedVariables false

theorem ex_bd (f : Int) (xs : List Int) (x : Int) : (0 ≤ exN f xs x ∧ exN f xs x ≤ 120000000) ∧ 0 ≤ exD f xs x ∧ exD f xs x ≤ 1000000 := by
  by_cases h : clE f xs x 0 = 0
  · obtain ⟨ht, ⟨x0, x1⟩, _, _⟩ := clE_iff.1 h
    obtain ⟨a0, a1⟩ := ht.later_bd x x0
    obtain ⟨b0, b1⟩ := ht.lvs_bd x
    obtain ⟨e1, e2⟩ := ex_0 h rfl rfl
    have g0 : 0 ≤ gcdI (laterSum f xs x) (lvs f xs x) := by unfold gcdI; omega
    rw [e1, e2]
    have h1 := Int.ediv_nonneg a0 g0
    have h2 := Int.ediv_nonneg b0 g0
    have h3 := Int.ediv_le_self (gcdI (laterSum f xs x) (lvs f xs x)) a0
    have h4 := Int.ediv_le_self (gcdI (laterSum f xs x) (lvs f xs x)) b0
    omega
  · obtain ⟨e1, e2⟩ := ex_n h
    rw [e1, e2]; omega

/-- the later lives are the next ones and what comes behind them -/
theorem later_next (f : Int) (xs : List Int) (x : Int) (hx : f ≤ x) : laterSum f xs x = lvs f xs (x + 1) + laterSum f xs (x + 1) := by
  unfold laterSum lvs
  rw [show (x + 1 - f).toNat = (x - f).toNat + 1 by omega]
  obtain ⟨k, hk⟩ : ∃ k, (x - f).toNat + 1 = k := ⟨_, rfl⟩
  rw [hk]
  by_cases hl : k < xs.length
  · rw [List.drop_eq_getElem_cons hl, List.sum_cons, List.getD_eq_getElem?_getD, List.getElem?_eq_getElem hl]; rfl
  · rw [List.drop_of_length_le (by omega), List.drop_of_length_le (by omega), List.getD_eq_getElem?_getD, List.getElem?_eq_none (by omega)]; rfl

/-- a fraction in lowest terms, found again -/
theorem gcd_parts (u p : Int) (u0 : 0 ≤ u) (p0 : 1 ≤ p) : ∃ a b g : Int, u / gcdI u p = a ∧ p / gcdI u p = b ∧ 0 ≤ a ∧ 1 ≤ b ∧ p % b = 0 ∧ p / b = g ∧ a * g = u ∧ 1 ≤ g ∧ g ≤ p ∧ a ≤ u := by
  obtain ⟨m, rfl⟩ := Int.eq_ofNat_of_zero_le u0
  obtain ⟨n, rfl⟩ := Int.eq_ofNat_of_zero_le (show 0 ≤ p by omega)
  have hg : 0 < Nat.gcd m n := Nat.gcd_pos_of_pos_right m (by omega)
  have e : gcdI (m : Int) (n : Int) = ((Nat.gcd m n : Nat) : Int) := by simp [gcdI]
  obtain ⟨m', hm⟩ := Nat.gcd_dvd_left m n
  obtain ⟨n', hn⟩ := Nat.gcd_dvd_right m n
  rw [e]
  obtain ⟨g, hgg⟩ : ∃ g, Nat.gcd m n = g := ⟨_, rfl⟩
  rw [hgg] at hg hm hn ⊢
  have em : m / g = m' := Nat.div_eq_of_eq_mul_right hg hm
  have en : n / g = n' := Nat.div_eq_of_eq_mul_right hg hn
  have hn0 : 0 < n' := by
    by_cases h : n' = 0
    · subst h; omega
    · omega
  have eg : n / n' = g := Nat.div_eq_of_eq_mul_left hn0 hn
  have er : n % n' = 0 := by rw [hn]; exact Nat.mul_mod_left g n'
  refine ⟨(m' : Int), (n' : Int), (g : Int), by rw [← em]; rfl, by rw [← en]; rfl, by omega, by omega, by exact_mod_cast er, by rw [← eg]; rfl, ?_, by omega, ?_, ?_⟩
  · rw [hm]; push_cast; rw [Int.mul_comm]
  · have := Nat.le_of_dvd (show 0 < n by omega) (show g ∣ n from ⟨n', hn⟩); omega
  · have : m' ≤ m := by rw [← em]; exact Nat.div_le_self _ _
    omega

end Go.Proofs.Ytlcmgihaelgclaa

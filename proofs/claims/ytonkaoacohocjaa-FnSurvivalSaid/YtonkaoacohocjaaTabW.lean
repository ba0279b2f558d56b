/- What the law on survival wants of the numbers. -/
import Derived.Test.YtonkaoacohocjaaTabV
import Derived.Test.YtonkaoacohocjaaTabP
namespace Go.Proofs.Ytonkaoacohocjaa
open Go.ChangeShapes Go.WideShapes Go.ChangeAt Go.RowKit
set_option linter.unusedVariables false

theorem least (P : Nat → Prop) (n : Nat) : P n → ∃ k, k ≤ n ∧ P k ∧ ∀ j, j < k → ¬ P j := by
  induction n using Nat.strongRecOn with
  | ind n ih =>
    intro hn
    by_cases h : ∃ j, j < n ∧ P j
    · obtain ⟨j, hj, hp⟩ := h
      obtain ⟨k, h1, h2, h3⟩ := ih j hj hp
      exact ⟨k, by omega, h2, h3⟩
    · exact ⟨n, Nat.le_refl _, hn, fun j hj hp => h ⟨j, hj, hp⟩⟩

theorem mid_facts {f : Int} {xs : List Int} {x : Int} (h : clE f xs x 0 = 0) : ∃ m, miV f xs x = m ∧ x < m ∧ m ≤ 150 ∧ 2 * lvs f xs m ≤ lvs f xs x ∧ ¬ 2 * lvs f xs (m - 1) ≤ lvs f xs x := by
  obtain ⟨ht, ⟨h1, h2⟩, _, hp⟩ := clE_iff.1 h
  have hb := ht.lvs_bd x
  have h150 : lvs f xs 150 = 0 := ht.lvs_zero 150 (by have := ht.2.2.1; omega)
  obtain ⟨k, hk, h3, h4⟩ := least (fun k => 2 * lvs f xs (x + k) ≤ lvs f xs x) (150 - x).toNat (by
    show 2 * lvs f xs (x + ((150 - x).toNat : Int)) ≤ lvs f xs x
    rw [show x + ((150 - x).toNat : Int) = 150 by omega, h150]; omega)
  have hk0 : k ≠ 0 := by
    rintro rfl
    simp at h3
    omega
  have hm : mdV f xs x = x + k := ht.mid x (x + k) h1 (by omega) (by omega) h3 (fun y hy hy2 => by
    have := h4 (y - x).toNat (by omega)
    rw [show x + ((y - x).toNat : Int) = y by omega] at this
    exact this)
  refine ⟨x + k, by simp [miV, h, hm], by omega, by omega, h3, ?_⟩
  have := h4 (k - 1) (by omega)
  rw [show x + ((k - 1 : Nat) : Int) = x + k - 1 by omega] at this
  exact this

theorem frac_facts (p s : Int) (p0 : 1 ≤ p) (p1 : p ≤ 1000000) (s0 : 0 ≤ s) (s1 : s ≤ 1000000) : ∃ N D : Int, s / gcdI s p = N ∧ p / gcdI s p = D ∧ (0 ≤ N ∧ N ≤ 1000000) ∧ (1 ≤ D ∧ D ≤ 1000000) ∧ N * p = D * s ∧ cfV N D = 1 ∧ cfE N D = 0 := by
  obtain ⟨a, rfl⟩ := Int.eq_ofNat_of_zero_le s0
  obtain ⟨b, rfl⟩ := Int.eq_ofNat_of_zero_le (show 0 ≤ p by omega)
  have hb : 0 < b := by omega
  have hg : 0 < Nat.gcd a b := Nat.gcd_pos_of_pos_right a hb
  have e : gcdI (a : Int) (b : Int) = ((Nat.gcd a b : Nat) : Int) := by simp [gcdI]
  have h1 : Nat.gcd (a / Nat.gcd a b) (b / Nat.gcd a b) = 1 := by
    rw [Nat.gcd_div (Nat.gcd_dvd_left a b) (Nat.gcd_dvd_right a b), Nat.div_self hg]
  obtain ⟨a', ha⟩ := Nat.gcd_dvd_left a b
  obtain ⟨b', hb'⟩ := Nat.gcd_dvd_right a b
  rw [e]
  obtain ⟨g, hgg⟩ : ∃ g, Nat.gcd a b = g := ⟨_, rfl⟩
  rw [hgg] at hg h1 ha hb' ⊢
  have ea : a / g = a' := Nat.div_eq_of_eq_mul_right hg ha
  have eb : b / g = b' := Nat.div_eq_of_eq_mul_right hg hb'
  rw [ea, eb] at h1
  have la : a' ≤ a := by rw [← ea]; exact Nat.div_le_self _ _
  have lb : b' ≤ b := by rw [← eb]; exact Nat.div_le_self _ _
  have lb0 : 0 < b' := by
    by_cases h : b' = 0
    · subst h; omega
    · omega
  refine ⟨(a' : Int), (b' : Int), by rw [← ea]; rfl, by rw [← eb]; rfl, by omega, by omega, ?_, ?_, ?_⟩
  · have : a' * b = b' * a := by
      rw [hb', ha, Nat.mul_left_comm, Nat.mul_left_comm b', Nat.mul_comm a' b']
    exact_mod_cast this
  · have hB : cfB (a' : Int) (b' : Int) = true := by unfold cfB; rw [Bool.and_eq_true, inB_iff, inB_iff]; omega
    simp [cfV, hB, gcdI, h1]
  · have hB : cfB (a' : Int) (b' : Int) = true := by unfold cfB; rw [Bool.and_eq_true, inB_iff, inB_iff]; omega
    simp [cfE, hB]

end Go.Proofs.Ytonkaoacohocjaa

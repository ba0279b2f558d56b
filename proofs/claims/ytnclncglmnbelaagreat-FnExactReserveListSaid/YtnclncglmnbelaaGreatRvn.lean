/- Reserves: numbers. -/
import Derived.Test.YtnclncglmnbelaaGreatPot
namespace Go.Proofs.YtnclncglmnbelaaGreat
open Go.ChangeShapes Go.WideShapes Go.ChangeAt Go.RowKit
set_option linter.unusedVariables false
set_option maxRecDepth 100000

/-- the years that are left -/
def lfN (k n j : Int) : Int := if k = 0 then 0 else n - j

/-- D in the year j -/
def dvN (r f : Int) (xs : List Int) (x j : Int) : Int := cD r xs (x + j - f).toNat

/-- the code of a year -/
def rvE (r f : Int) (xs : List Int) (k x n s u j : Int) : Int :=
  if poB r f xs k x n s u = true then (if inB j 0 (durN f xs k x n - 1) = true then (if dvN r f xs x j = 0 then 5 else 0) else 2) else 1

/-- what is still to be paid out and what is still to come in -/
def ryT (r f : Int) (xs : List Int) (k x n j : Int) : Int := asT r f xs k (x + j) (lfN k n j)

def ryB (r f : Int) (xs : List Int) (k x n j : Int) : Int := asB r f xs k (x + j) (lfN k n j)

/-- the numerators of the forward and the backward reserve, and of the gain -/
def fwN (r f : Int) (xs : List Int) (k x n s j : Int) : Int := s * ryT r f xs k x n j - netN r f xs k x n s * ryB r f xs k x n j

def bwN (r f : Int) (xs : List Int) (k x n s j : Int) : Int := netN r f xs k x n s * (asB r f xs k x n - ryB r f xs k x n j) - s * (asT r f xs k x n - ryT r f xs k x n j)

def gnN (r f : Int) (xs : List Int) (k x n s : Int) : Int := netN r f xs k x n s * asB r f xs k x n - s * asT r f xs k x n

theorem rvE_iff {r f : Int} {xs : List Int} {k x n s u j : Int} : rvE r f xs k x n s u j = 0 ↔ poB r f xs k x n s u = true ∧ (0 ≤ j ∧ j ≤ durN f xs k x n - 1) ∧ dvN r f xs x j ≠ 0 := by
  unfold rvE
  rw [← inB_iff]
  split
  · split
    · split <;> simp_all
    · simp_all
  · simp_all

theorem rvE_no {r f : Int} {xs : List Int} {k x n s u j : Int} (h : poB r f xs k x n s u = false) : rvE r f xs k x n s u j = 1 := by
  unfold rvE; simp [h]

theorem rvE_out {r f : Int} {xs : List Int} {k x n s u j : Int} (h : poB r f xs k x n s u = true) (hj : inB j 0 (durN f xs k x n - 1) = false) : rvE r f xs k x n s u j = 2 := by
  unfold rvE; simp [h, hj]

theorem rvE_zero {r f : Int} {xs : List Int} {k x n s u j : Int} (h : poB r f xs k x n s u = true) (hj : inB j 0 (durN f xs k x n - 1) = true) (hd : dvN r f xs x j = 0) : rvE r f xs k x n s u j = 5 := by
  unfold rvE; simp [h, hj, hd]

/-- a valid policy and its years -/
theorem rv_in {r f : Int} {xs : List Int} {k x n s u j : Int} (hp : poB r f xs k x n s u = true) (hj : 0 ≤ j ∧ j ≤ durN f xs k x n - 1) :
    LTab f xs ∧ (0 ≤ r ∧ r ≤ 200) ∧ ((0 ≤ k ∧ k ≤ 3) ∧ (k = 0 ↔ lfN k n j = 0)) ∧ (0 ≤ lfN k n j ∧ lfN k n j ≤ 120) ∧ (f ≤ x + j ∧ x + j + lfN k n j ≤ 150 ∧ x + j ≤ 149) ∧ (f ≤ x ∧ x ≤ 150) ∧ (0 ≤ n ∧ n ≤ 120) ∧ (0 ≤ f ∧ f ≤ 100) := by
  have hz := (poB_iff.1 hp).1
  unfold asE at hz
  obtain ⟨-, ⟨hk, hkn⟩, ht, hr, hx, hn, xn, hd⟩ := as_in hz
  obtain ⟨f0, f1⟩ := ht.1
  have hs := ht.2.1
  have hs2 := ht.2.2.1
  unfold durN at hj
  unfold lfN
  by_cases h : k = 0
  · rw [if_pos h] at hj ⊢
    exact ⟨ht, hr, ⟨hk, by omega⟩, by omega, by omega, hx, hn, f0, f1⟩
  · rw [if_neg h] at hj ⊢
    exact ⟨ht, hr, ⟨hk, by omega⟩, by omega, by omega, hx, hn, f0, f1⟩

theorem dur_pos {r f : Int} {xs : List Int} {k x n s u : Int} (hp : poB r f xs k x n s u = true) : 1 ≤ durN f xs k x n ∧ durN f xs k x n ≤ 120 := by
  have hz := (poB_iff.1 hp).1
  unfold asE at hz
  obtain ⟨-, ⟨hk, hkn⟩, ht, hr, ⟨x0, x1⟩, hn, xn, hd⟩ := as_in hz
  obtain ⟨f0, f1⟩ := ht.1
  have hs := ht.2.1
  unfold durN
  by_cases h : k = 0
  · rw [if_pos h]
    have hlt : (x - f).toNat < xs.length - 1 := by
      by_cases hlt : (x - f).toNat < xs.length - 1
      · exact hlt
      · exact absurd (ht.cD_far r _ (by omega)) hd
    omega
  · rw [if_neg h]
    have : ¬ n = 0 := fun e => h (hkn.2 e)
    omega

/-- the assurance of a year has no error -/
theorem rv_as {r f : Int} {xs : List Int} {k x n s u j : Int} (hp : poB r f xs k x n s u = true) (hj : 0 ≤ j ∧ j ≤ durN f xs k x n - 1) (hd : dvN r f xs x j ≠ 0) :
    anE r f xs (x + j) (inB s 1 100000000 && fitB k (lfN k n j)) (lfN k n j) = 0 := by
  have hz := (poB_iff.1 hp).1
  unfold asE at hz
  have hB := (as_in hz).1
  obtain ⟨ht, hr, hk, hl, ⟨y0, y1, y2⟩, -, -, -⟩ := rv_in hp hj
  refine anE_iff.2 ⟨coE_iff.2 ⟨ht, hr, y0, by omega⟩, ?_, hl, by omega, hd⟩
  rw [Bool.and_eq_true]
  exact ⟨hB, fitB_iff.2 hk⟩

/-- for a kind with years only D at the beginning counts -/
theorem rv_age {r f : Int} {xs : List Int} {k x n s u j : Int} (hp : poB r f xs k x n s u = true) (hk : k ≠ 0) (hj : 0 ≤ j ∧ j ≤ durN f xs k x n - 1) : dvN r f xs x j ≠ 0 := by
  obtain ⟨-, -, h3⟩ := poB_iff.1 hp
  obtain ⟨-, -, -, -, -, ⟨x0, x1⟩, -, -⟩ := rv_in hp hj
  unfold durN at hj
  rw [if_neg hk] at hj
  have := h3 j.toNat (by omega)
  unfold dvN
  rw [show (x + j - f).toNat = (x - f).toNat + j.toNat by omega]
  exact this

/-- the numbers of a year -/
theorem rv_nums {r f : Int} {xs : List Int} {k x n s u j : Int} (hp : poB r f xs k x n s u = true) (hj : 0 ≤ j ∧ j ≤ durN f xs k x n - 1) (hd : dvN r f xs x j ≠ 0) :
    ∃ t b d t0 b0 p : Int, ryT r f xs k x n j = t ∧ ryB r f xs k x n j = b ∧ dvN r f xs x j = d ∧ asT r f xs k x n = t0 ∧ asB r f xs k x n = b0 ∧ netN r f xs k x n s = p ∧
      (0 ≤ t ∧ t ≤ d) ∧ (1 ≤ d ∧ d ≤ 1000000000000000) ∧ (d ≤ b ∧ b ≤ 152 * d) ∧ (t ≤ t0 ∧ t0 ≤ 1000000000000000) ∧ (b ≤ b0 ∧ b0 ≤ 152000000000000000) ∧ (0 ≤ p ∧ p ≤ 100000001) ∧ s * t0 ≤ p * b0 ∧ p * b0 < s * t0 + b0 ∧ 1 ≤ s ∧ s ≤ 100000000 := by
  obtain ⟨t0, d0, b0, p, e1, e2, e3, e4, t00, t01, d00, d01, b00, b01, p0, p1, g0, g1, s0, s1⟩ := po_nums hp
  obtain ⟨t, d, b, f1, f2, f3, h1, h2, h3, h4, h5, h6⟩ := as_nums (rv_as hp hj hd)
  obtain ⟨ht, ⟨r0, r1⟩, ⟨hk, hkl⟩, ⟨l0, l1⟩, ⟨y0, y1, y2⟩, ⟨x0, x1⟩, ⟨n0, n1⟩, -⟩ := rv_in hp hj
  refine ⟨t, b, d, t0, b0, p, f1, f3, f2, e1, e3, e4, ⟨h1, h2⟩, ⟨h3, h4⟩, ⟨h5, ?_⟩, ⟨?_, by omega⟩, ⟨?_, b01⟩, ⟨p0, p1⟩, g0, g1, s0, s1⟩
  · have q1 := ht.cN_le r r0 (x + j - f).toNat
    have q2 := (ht.cN_bd r r0 (x + j + lfN k n j - f).toNat).1
    rw [← f3, ← f2]
    unfold asB
    split <;> omega
  · rw [← f1, ← e1]
    have q1 := ht.cM_mono r r0 (x - f).toNat j.toNat
    rw [show (x - f).toNat + j.toNat = (x + j - f).toNat by omega] at q1
    unfold asT lfN
    by_cases h : k = 0
    · rw [if_pos h, if_pos h]; exact q1
    · rw [if_neg h, if_neg h, if_neg h, show x + j + (n - j) - f = x + n - f by omega]
      split
      · omega
      · split <;> omega
  · rw [← f3, ← e3]
    have q1 := ht.cN_mono r r0 (x - f).toNat j.toNat
    rw [show (x - f).toNat + j.toNat = (x + j - f).toNat by omega] at q1
    unfold asB lfN
    by_cases h : k = 0
    · rw [if_pos h, if_pos h]; exact q1
    · rw [if_neg h, if_neg h, if_neg h, show x + j + (n - j) - f = x + n - f by omega]
      omega

theorem bw_eq (r f : Int) (xs : List Int) (k x n s j : Int) : bwN r f xs k x n s j = fwN r f xs k x n s j + gnN r f xs k x n s := by
  unfold bwN fwN gnN
  rw [Int.mul_sub, Int.mul_sub]
  omega

/-- how great the three numerators are -/
theorem rv_bds {r f : Int} {xs : List Int} {k x n s u j : Int} (hp : poB r f xs k x n s u = true) (hj : 0 ≤ j ∧ j ≤ durN f xs k x n - 1) (hd : dvN r f xs x j ≠ 0) :
    (-(20000000000 * dvN r f xs x j) ≤ fwN r f xs k x n s j ∧ fwN r f xs k x n s j ≤ 20000000000 * dvN r f xs x j) ∧
    (0 ≤ gnN r f xs k x n s ∧ gnN r f xs k x n s ≤ 152000000000000000 * dvN r f xs x j) ∧
    (-(20000000000 * dvN r f xs x j) ≤ bwN r f xs k x n s j ∧ bwN r f xs k x n s j ≤ 152000020000000000 * dvN r f xs x j) := by
  rw [bw_eq]
  obtain ⟨t, b, d, t0, b0, p, e1, e2, e3, e4, e5, e6, ⟨h1, h2⟩, ⟨h3, h4⟩, ⟨h5, h6⟩, ⟨h7, h8⟩, ⟨h9, h10⟩, ⟨p0, p1⟩, g0, g1, s0, s1⟩ := rv_nums hp hj hd
  unfold fwN gnN
  rw [e1, e2, e3, e4, e5, e6]
  have m1 : s * t ≤ 100000000 * d := Int.le_trans (Int.mul_le_mul_of_nonneg_left h2 (by omega)) (Int.mul_le_mul_of_nonneg_right s1 (by omega))
  have m2 : p * b ≤ 100000001 * (152 * d) := Int.le_trans (Int.mul_le_mul_of_nonneg_left h6 p0) (Int.mul_le_mul_of_nonneg_right p1 (by omega))
  have m3 : 0 ≤ s * t := Int.mul_nonneg (by omega) h1
  have m4 : 0 ≤ p * b := Int.mul_nonneg p0 (by omega)
  omega

/-- what is told of a quotient -/
def qdV (e N d : Int) : Int := if e = 0 then N / d else 0

def rdV (e N d : Int) : Int := if e = 0 then N % d else 0

/-- the denominator -/
def deV (r f : Int) (xs : List Int) (k x n s u j : Int) : Int := if rvE r f xs k x n s u j = 0 then dvN r f xs x j else 0

/-- the number of the list -/
def ktN (r f : Int) (xs : List Int) (k x n s j : Int) : Int := max 0 (fwN r f xs k x n s j / dvN r f xs x j + min 1 (fwN r f xs k x n s j % dvN r f xs x j))

theorem kt_bd {r f : Int} {xs : List Int} {k x n s u j : Int} (hp : poB r f xs k x n s u = true) (hj : 0 ≤ j ∧ j ≤ durN f xs k x n - 1) (hd : dvN r f xs x j ≠ 0) :
    ∃ q m, fwN r f xs k x n s j / dvN r f xs x j = q ∧ fwN r f xs k x n s j % dvN r f xs x j = m ∧ -20000000000 ≤ q ∧ q ≤ 20000000000 ∧ 0 ≤ m ∧ m < dvN r f xs x j ∧ dvN r f xs x j ≤ 1000000000000000 ∧ ktN r f xs k x n s j = max 0 (q + min 1 m) ∧ 0 ≤ ktN r f xs k x n s j ∧ ktN r f xs k x n s j ≤ 20000000001 := by
  obtain ⟨⟨h1, h2⟩, -, -⟩ := rv_bds hp hj hd
  obtain ⟨t, b, d, t0, b0, p, e1, e2, e3, e4, e5, e6, -, ⟨h3, h4⟩, -⟩ := rv_nums hp hj hd
  unfold ktN
  rw [e3] at h1 h2 ⊢
  have q0 : -20000000000 ≤ fwN r f xs k x n s j / d := Int.le_ediv_of_mul_le (by omega) (by rw [Int.neg_mul]; omega)
  have q1 : fwN r f xs k x n s j / d ≤ 20000000000 := by
    have := Int.ediv_le_ediv (show 0 < d by omega) h2
    rwa [Int.mul_ediv_cancel _ (by omega)] at this
  have m0 := Int.emod_nonneg (fwN r f xs k x n s j) (show d ≠ 0 by omega)
  have m1 := Int.emod_lt_of_pos (fwN r f xs k x n s j) (show 0 < d by omega)
  exact ⟨_, _, rfl, rfl, q0, q1, m0, m1, h4, rfl, by omega, by omega⟩

/-- the reserves of a policy -/
def rlE (r f : Int) (xs : List Int) (k x n s u : Int) : Int := if poB r f xs k x n s u = true then (if npB r xs (x - f).toNat (durN f xs k x n).toNat = true then 0 else 5) else 1

def rlF (r f : Int) (xs : List Int) (k x n s : Int) (j : Nat) : Int := ktN r f xs k x n s j

def rlY (r f : Int) (xs : List Int) (k x n s u : Int) : List Int := if rlE r f xs k x n s u = 0 then colL (rlF r f xs k x n s) (durN f xs k x n).toNat else []

/-- what a death costs -/
def rkE (r f : Int) (xs : List Int) (k x n s u j : Int) : Int := if rvE r f xs k x n s u j = 0 then (if j < durN f xs k x n - 1 then rvE r f xs k x n s u (j + 1) else 0) else rvE r f xs k x n s u j

def rkN (r f : Int) (xs : List Int) (k x n s j : Int) : Int :=
  (if k = 3 ∨ k = 2 ∧ j = durN f xs k x n - 1 then 0 else s) - (if j < durN f xs k x n - 1 then ktN r f xs k x n s (j + 1) else 0)

def rkV (r f : Int) (xs : List Int) (k x n s u j : Int) : Int := if rkE r f xs k x n s u j = 0 then rkN r f xs k x n s j else 0

/-- the greatest of the first n numbers, and the first place where it stands -/
def gmI (F : Nat → Int) : Nat → Nat
  | 0 => 0
  | n + 1 => if F (gmI F n) < F n then n else gmI F n

def grE := rlE

def grV (r f : Int) (xs : List Int) (k x n s u : Int) : Int := if rlE r f xs k x n s u = 0 then rlF r f xs k x n s (gmI (rlF r f xs k x n s) (durN f xs k x n).toNat) else 0

def grI (r f : Int) (xs : List Int) (k x n s u : Int) : Int := if rlE r f xs k x n s u = 0 then (gmI (rlF r f xs k x n s) (durN f xs k x n).toNat : Nat) else 0

end Go.Proofs.YtnclncglmnbelaaGreat

/- Policies: numbers. -/
import Derived.Test.YtnclncglmnbelaaGreatAsl
import Derived.Test.YtnclncglmnbelaaGreatUpv
namespace Go.Proofs.YtnclncglmnbelaaGreat
open Go.ChangeShapes Go.WideShapes Go.ChangeAt Go.RowKit
set_option linter.unusedVariables false
set_option maxRecDepth 100000

/-- is a policy valid for a basis? -/
def poB (r f : Int) (xs : List Int) (k x n s u : Int) : Bool := decide (asE r f xs k x n s = 0) && (inB u 0 1000 && npB r xs (x - f).toNat n.toNat)

def poE (r f : Int) (xs : List Int) (k x n s u : Int) : Int := if poB r f xs k x n s u = true then 0 else 1

theorem poB_iff {r f : Int} {xs : List Int} {k x n s u : Int} : poB r f xs k x n s u = true ↔ asE r f xs k x n s = 0 ∧ (0 ≤ u ∧ u ≤ 1000) ∧ ∀ j, j < n.toNat → cD r xs ((x - f).toNat + j) ≠ 0 := by
  unfold poB
  rw [Bool.and_eq_true, Bool.and_eq_true, decide_eq_true_iff, npB_iff, inB_iff]

theorem poE_iff {r f : Int} {xs : List Int} {k x n s u : Int} : poE r f xs k x n s u = 0 ↔ poB r f xs k x n s u = true := by
  unfold poE; split <;> simp_all

theorem poE_no {r f : Int} {xs : List Int} {k x n s u : Int} (h : poB r f xs k x n s u = false) : poE r f xs k x n s u = 1 := by
  unfold poE; simp [h]

theorem poE_yes {r f : Int} {xs : List Int} {k x n s u : Int} (h : poB r f xs k x n s u = true) : poE r f xs k x n s u = 0 := by
  unfold poE; simp [h]

/-- D does not rise: it is enough that it is not 0 at the last age -/
theorem np_last {r f : Int} {xs : List Int} (h : LTab f xs) (r0 : 0 ≤ r) {x n : Int} (x0 : f ≤ x) (n0 : 0 ≤ n) (hd : cD r xs (x - f).toNat ≠ 0) :
    npB r xs (x - f).toNat n.toNat = true ↔ cD r xs (x + max (n - 1) 0 - f).toNat ≠ 0 := by
  rw [npB_iff]
  constructor
  · intro hj
    by_cases hn : n = 0
    · subst hn
      rw [show (x + max (0 - 1) 0 - f).toNat = (x - f).toNat by omega]
      exact hd
    · have := hj (n - 1).toNat (by omega)
      rw [show (x + max (n - 1) 0 - f).toNat = (x - f).toNat + (n - 1).toNat by omega]
      exact this
  · intro hl j hj e
    have hm := h.cD_mono r r0 ((x - f).toNat + j) ((n - 1).toNat - j)
    have h0 := (h.cD_bd r r0 ((x - f).toNat + j + ((n - 1).toNat - j))).1
    rw [show (x - f).toNat + j + ((n - 1).toNat - j) = (x + max (n - 1) 0 - f).toNat by omega] at hm h0
    omega

/-- the net premium, the office premium over a net one, the duration -/
def netN (r f : Int) (xs : List Int) (k x n s : Int) : Int := upV s (asT r f xs k x n) (asB r f xs k x n)

def offN (p u : Int) : Int := p + -(-(p * u) / 1000)

def durN (f : Int) (xs : List Int) (k x n : Int) : Int := if k = 0 then f + xs.length - 1 - x else n

theorem asE_sum {r f : Int} {xs : List Int} {k x n s t : Int} (h : asE r f xs k x n s = 0) (t0 : 1 ≤ t) (t1 : t ≤ 100000000) : asE r f xs k x n t = 0 := by
  unfold asE at h ⊢
  have hb := (as_in h).1
  rw [show inB t 1 100000000 = inB s 1 100000000 by rw [hb]; exact (inB_iff _ _ _).2 ⟨t0, t1⟩]
  exact h

theorem poB_sum {r f : Int} {xs : List Int} {k x n s u t : Int} (h : poB r f xs k x n s u = true) (t0 : 1 ≤ t) (t1 : t ≤ 100000000) : poB r f xs k x n t u = true := by
  obtain ⟨h1, h2, h3⟩ := poB_iff.1 h
  exact poB_iff.2 ⟨asE_sum h1 t0 t1, h2, h3⟩

/-- the numbers of a valid policy -/
theorem po_nums {r f : Int} {xs : List Int} {k x n s u : Int} (h : poB r f xs k x n s u = true) :
    ∃ t d b p : Int, asT r f xs k x n = t ∧ cD r xs (x - f).toNat = d ∧ asB r f xs k x n = b ∧ netN r f xs k x n s = p ∧ 0 ≤ t ∧ t ≤ d ∧ 1 ≤ d ∧ d ≤ 1000000000000000 ∧ d ≤ b ∧ b ≤ 152000000000000000 ∧
      0 ≤ p ∧ p ≤ 100000001 ∧ s * t ≤ p * b ∧ p * b < s * t + b ∧ 1 ≤ s ∧ s ≤ 100000000 := by
  obtain ⟨h1, -, -⟩ := poB_iff.1 h
  unfold asE at h1
  obtain ⟨hB, -⟩ := as_in h1
  obtain ⟨s0, s1⟩ := (inB_iff _ _ _).1 hB
  obtain ⟨t, d, b, e1, e2, e3, t0, t1, d0, d1, b0, b1⟩ := as_nums h1
  have hq := quot_le s t b (by omega) (by omega) (by omega)
  obtain ⟨p0, p1⟩ := upV_bd s t b s (by omega) t0 (by omega) hq
  obtain ⟨q0, q1⟩ := upV_ceil s t b (by omega)
  refine ⟨t, d, b, _, e1, e2, e3, rfl, t0, t1, d0, d1, b0, b1, ?_⟩
  unfold netN
  rw [e1, e3]
  exact ⟨p0, by omega, q0, q1, s0, s1⟩

theorem upV_mono (s s' t b : Int) (h : s ≤ s') (t0 : 0 ≤ t) (hb : 1 ≤ b) : upV s t b ≤ upV s' t b := by
  obtain ⟨q0, q1⟩ := upV_ceil s t b hb
  obtain ⟨q2, q3⟩ := upV_ceil s' t b hb
  have e := Int.mul_le_mul_of_nonneg_right h t0
  have : upV s t b * b < (upV s' t b + 1) * b := by rw [Int.add_mul]; omega
  have := Int.lt_of_mul_lt_mul_right this (by omega)
  omega

theorem offN_mono (p p' u : Int) (h : p ≤ p') (u0 : 0 ≤ u) : offN p u ≤ offN p' u := by
  have e := Int.mul_le_mul_of_nonneg_right h u0
  unfold offN
  omega

theorem offN_bd (p u : Int) (p0 : 0 ≤ p) (p1 : p ≤ 100000001) (u0 : 0 ≤ u) (u1 : u ≤ 1000) : p ≤ offN p u ∧ offN p u ≤ 2 * p ∧ 0 ≤ p * u ∧ p * u ≤ 100000001000 := by
  have e := Int.mul_le_mul_of_nonneg_left u1 p0
  have e0 := Int.mul_nonneg p0 u0
  unfold offN
  omega

/-- the greatest number up to n at which F is at most q, or 0 -/
def grS (F : Int → Int) (q : Int) : Nat → Int
  | 0 => 0
  | n + 1 => if F ((n : Int) + 1) ≤ q then (n : Int) + 1 else grS F q n

theorem grS_eq (F : Int → Int) (q : Int) (n : Nat) (g : Int) (g0 : 0 ≤ g) (g1 : g ≤ n) (hg : g = 0 ∨ F g ≤ q) (hn : ∀ t : Int, g < t → t ≤ n → q < F t) : grS F q n = g := by
  induction n with
  | zero => unfold grS; omega
  | succ n ih =>
    unfold grS
    by_cases h : g = (n : Int) + 1
    · subst h
      rcases hg with hg | hg
      · omega
      · rw [if_pos hg]
    · rw [if_neg (by have := hn ((n : Int) + 1) (by omega) (by omega); omega)]
      exact ih (by omega) (fun t h1 h2 => hn t h1 (by omega))

/-- the greatest sum for a premium -/
def sfN (r f : Int) (xs : List Int) (k x n u q : Int) : Int := grS (fun t => offN (netN r f xs k x n t) u) q 100000000

def sfE (r f : Int) (xs : List Int) (k x n s u q : Int) : Int := if poB r f xs k x n s u = true then (if inB q 1 100000000 = true then (if sfN r f xs k x n u q = 0 then 4 else 0) else 2) else 1

def sfV (r f : Int) (xs : List Int) (k x n s u q : Int) : Int := if sfE r f xs k x n s u q = 0 then sfN r f xs k x n u q else 0

theorem off_mono {r f : Int} {xs : List Int} {k x n s u : Int} (h : poB r f xs k x n s u = true) (a b : Int) (hab : a ≤ b) : offN (netN r f xs k x n a) u ≤ offN (netN r f xs k x n b) u := by
  obtain ⟨t, d, v, p, e1, e2, e3, -, t0, t1, d0, d1, b0, b1, -⟩ := po_nums h
  refine offN_mono _ _ _ ?_ (poB_iff.1 h).2.1.1
  unfold netN
  rw [e1, e3]
  exact upV_mono a b t v hab t0 (by omega)

theorem sfN_eq {r f : Int} {xs : List Int} {k x n u q : Int} (g : Int) (g0 : 0 ≤ g) (g1 : g ≤ 100000000) (hg : g = 0 ∨ offN (netN r f xs k x n g) u ≤ q) (hn : ∀ t : Int, g < t → t ≤ 100000000 → q < offN (netN r f xs k x n t) u) : sfN r f xs k x n u q = g :=
  grS_eq _ q 100000000 g g0 g1 hg hn

/-- what the rounding of the net premium is worth -/
def gnQ (r f : Int) (xs : List Int) (k x n s : Int) : Int := (netN r f xs k x n s * asB r f xs k x n - s * asT r f xs k x n) / cD r xs (x - f).toNat

def gnR (r f : Int) (xs : List Int) (k x n s : Int) : Int := (netN r f xs k x n s * asB r f xs k x n - s * asT r f xs k x n) % cD r xs (x - f).toNat

end Go.Proofs.YtnclncglmnbelaaGreat

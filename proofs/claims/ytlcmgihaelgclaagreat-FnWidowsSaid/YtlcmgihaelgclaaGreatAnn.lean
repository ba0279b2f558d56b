/- Annuities: numbers, and the model's functions. | Annuities: the model's prices. (Written by wip/gen/annt.py.) -/
import Derived.Test.YtlcmgihaelgclaaGreatCol
import Derived.Test.YtlcmgihaelgclaaGreatMdS
import Derived.Deep.RegionHeld3
namespace Go.Proofs.YtlcmgihaelgclaaGreat
open Go.ChangeShapes Go.WideShapes Go.ChangeAt Go.RowKit
set_option linter.unusedVariables false
set_option maxRecDepth 100000

/-- a product divided and rounded up -/
def upV (a b c : Int) : Int := a * b / c + (if 0 < a * b % c then 1 else 0)

theorem LTab.cD_le {f : Int} {xs : List Int} (h : LTab f xs) (r : Int) (r0 : 0 ≤ r) (k : Nat) : cD r xs (k + 1) ≤ cD r xs k :=
  Int.mul_le_mul (h.step k) (disc_le r r0 k) (disc_bd r r0 (k + 1)).1 (h.nonneg k)

theorem LTab.cD_mono {f : Int} {xs : List Int} (h : LTab f xs) (r : Int) (r0 : 0 ≤ r) (k n : Nat) : cD r xs (k + n) ≤ cD r xs k := by
  induction n with
  | zero => exact Int.le_refl _
  | succ n ih => exact Int.le_trans (h.cD_le r r0 (k + n)) ih

theorem LTab.cN_le {f : Int} {xs : List Int} (h : LTab f xs) (r : Int) (r0 : 0 ≤ r) (k : Nat) : cN r xs k ≤ 152 * cD r xs k := by
  have : ∀ n : Nat, fsum (cD r xs) k n ≤ n * cD r xs k := by
    intro n
    induction n with
    | zero => simp [fsum]
    | succ n ih =>
      rw [fsum]
      have := h.cD_mono r r0 k n
      rw [show ((n + 1 : Nat) : Int) * cD r xs k = (n : Int) * cD r xs k + cD r xs k by rw [Int.natCast_add, Int.add_mul]; omega]
      omega
  exact this 152

theorem LTab.cN_mono {f : Int} {xs : List Int} (h : LTab f xs) (r : Int) (r0 : 0 ≤ r) (k n : Nat) : cN r xs (k + n) ≤ cN r xs k := by
  induction n with
  | zero => exact Int.le_refl _
  | succ n ih =>
    have := h.cN_step r (k + n)
    have := (h.cD_bd r r0 (k + n)).1
    rw [show k + (n + 1) = k + n + 1 by omega]
    omega

theorem LTab.cN_ge {f : Int} {xs : List Int} (h : LTab f xs) (r : Int) (r0 : 0 ≤ r) (k : Nat) : cD r xs k ≤ cN r xs k := by
  have := h.cN_step r k
  have := (h.cN_bd r r0 (k + 1)).1
  omega

/-- a part of N, times an amount, over D -/
theorem LTab.quot {f : Int} {xs : List Int} (h : LTab f xs) (r : Int) (r0 : 0 ≤ r) (k : Nat) (u b : Int) (u0 : 0 ≤ u) (u1 : u ≤ cN r xs k) (hd : cD r xs k ≠ 0) (b0 : 0 ≤ b) (b1 : b ≤ 1000000) :
    u ≤ 1000000000000000000 ∧ 1 ≤ cD r xs k ∧ cD r xs k ≤ 1000000000000000000 ∧ b * u / cD r xs k ≤ 152000000 := by
  have e1 := (h.cN_bd r r0 k).2
  have e2 := h.cD_bd r r0 k
  have e3 := h.cN_le r r0 k
  refine ⟨by omega, by omega, by omega, ?_⟩
  have e4 : b * u ≤ b * (152 * cD r xs k) := Int.mul_le_mul_of_nonneg_left (by omega) b0
  have e5 : b * u / cD r xs k ≤ b * (152 * cD r xs k) / cD r xs k := Int.ediv_le_ediv (by omega) e4
  rw [← Int.mul_assoc, Int.mul_ediv_cancel _ hd] at e5
  omega

theorem upV_eq (a b c : Int) (hc : 1 ≤ c) : ∃ q r : Int, a * b / c = q ∧ a * b % c = r ∧ 0 ≤ r ∧ r < c ∧ (r = 0 → upV a b c = q) ∧ (0 < r → upV a b c = q + 1) := by
  refine ⟨_, _, rfl, rfl, Int.emod_nonneg _ (by omega), Int.emod_lt_of_pos _ (by omega), fun h => ?_, fun h => ?_⟩
  · unfold upV; rw [h]; simp
  · unfold upV; rw [if_pos h]

theorem sup_any (a b c : Int) (w : World) (a0 : 0 ≤ a) (a1 : a ≤ 1000000000000) (b0 : 0 ≤ b) (b1 : b ≤ 1000000000000000000) (c0 : 1 ≤ c) (c1 : c ≤ 1000000000000000000) (hq : a * b / c ≤ 100000000000000000) :
    Calls Tryz.prog 17 #[.int .i64 a, .int .i64 b, .int .i64 c] w fun e w' => e = .returned (.int .i64 (upV a b c)) ∧ w = w' := by
  have HC := Lib.hid (fun W => sdiv_any a b c W a0 a1 b0 b1 c0 c1)
  obtain ⟨e1, e2⟩ := md_small a b c (by omega)
  rw [e1, e2] at HC
  obtain ⟨q, r, hq1, hr1, r0, r1, g1, g2⟩ := upV_eq a b c c0
  have q0 : 0 ≤ q := by rw [← hq1]; exact Int.ediv_nonneg (Int.mul_nonneg a0 b0) (by omega)
  rw [hq1, hr1] at HC
  rw [hq1] at hq
  clear e1 e2 hq1 hr1
  by_cases hz : r = 0
  · have G := Lib.hid (g1 hz)
    subst hz
    clear g1 g2
    go_enter Tryz.func17, Tryz.ntmps17
    go_wp2_with (go_at_call 37; refine (HC.out _).mono ?_; rintro e w' ⟨rfl, rfl⟩)
    go_ret
    exact ⟨ret_int (by rw [G.out]), rfl⟩
  · have h1 : 1 ≤ r := by omega
    have G := Lib.hid (g2 (by omega))
    clear g1 g2
    go_enter Tryz.func17, Tryz.ntmps17
    go_wp2_with (go_at_call 37; refine (HC.out _).mono ?_; rintro e w' ⟨rfl, rfl⟩)
    go_ret
    exact ⟨ret_int (by rw [G.out]), rfl⟩

/-- the code of an annuity: b: is the amount right? -/
def anE (r f : Int) (xs : List Int) (x : Int) (b : Bool) (n : Int) : Int :=
  if coE r f xs x = 0 then (if b = true ∧ (0 ≤ n ∧ n ≤ 120) ∧ x + n ≤ 150 then (if cD r xs (x - f).toNat = 0 then 5 else 0) else 2) else coE r f xs x

theorem anE_iff {r f : Int} {xs : List Int} {x : Int} {b : Bool} {n : Int} : anE r f xs x b n = 0 ↔ coE r f xs x = 0 ∧ b = true ∧ (0 ≤ n ∧ n ≤ 120) ∧ x + n ≤ 150 ∧ cD r xs (x - f).toNat ≠ 0 := by
  unfold anE
  by_cases h1 : coE r f xs x = 0
  · by_cases h2 : b = true ∧ (0 ≤ n ∧ n ≤ 120) ∧ x + n ≤ 150
    · rw [if_pos h1, if_pos h2]
      by_cases h3 : cD r xs (x - f).toNat = 0
      · simp [h3]
      · simp [h3, h1, h2]
    · rw [if_pos h1, if_neg h2]
      constructor
      · intro h; omega
      · rintro ⟨_, a, b, c, _⟩; exact absurd ⟨a, b, c⟩ h2
  · rw [if_neg h1]
    constructor
    · intro h; exact absurd h h1
    · rintro ⟨h, _⟩; exact absurd h h1

theorem inB_no {x a b : Int} (h : ¬ (a ≤ x ∧ x ≤ b)) : inB x a b = false := by
  cases hc : inB x a b
  · rfl
  · exact absurd ((inB_iff _ _ _).1 hc) h

theorem samt_any (n : Int) (w : World) : Calls Tryz.prog 42 #[.int .i64 n] w fun e w' => e = .returned (.bool (inB n 1 1000000)) ∧ w = w' := by
  go_enter Tryz.func42, Tryz.ntmps42
  go_wp2_with (go_at_call 54; refine (in_any _ _ _ _).mono ?_; rintro e w' ⟨rfl, rfl⟩)
  go_ret
  exact ⟨rfl, rfl⟩

def lifeV (r f : Int) (xs : List Int) (x b : Int) : Int := if anE r f xs x (inB b 1 1000000) 0 = 0 then upV b (cN r xs (x - f).toNat) (cD r xs (x - f).toNat) else 0

def termV (r f : Int) (xs : List Int) (x b n : Int) : Int := if anE r f xs x (inB b 1 1000000) n = 0 then upV b (cN r xs (x - f).toNat - cN r xs (x + n - f).toNat) (cD r xs (x - f).toNat) else 0

def lateV (r f : Int) (xs : List Int) (x b n : Int) : Int := if anE r f xs x (inB b 1 1000000) n = 0 then upV b (cN r xs (x + n - f).toNat) (cD r xs (x - f).toNat) else 0

def sureV (r f : Int) (xs : List Int) (x b n : Int) : Int := if anE r f xs x (inB b 1 1000000) n = 0 then upV b (dsum r 0 n.toNat) 1000000000 + upV b (cN r xs (x + n - f).toNat) (cD r xs (x - f).toNat) else 0

def amtV (r f : Int) (xs : List Int) (x p : Int) : Int := if anE r f xs x (inB p 1 1000000000) 0 = 0 then p * cD r xs (x - f).toNat / cN r xs (x - f).toNat else 0

def IIPost (v E : Int) (w : World) (e : Ending) (w' : World) : Prop := e = .returned (.tuple #[.int .i64 v, .int .i64 E]) ∧ Below w.heap.size w w'

theorem cell_drew {w : World} {p : Addr} {v : Value} (h : w.cell? p = some v) : w.drew.cell? p = some v := h

/-- a part of N, n years later -/
theorem LTab.late {f : Int} {xs : List Int} (h : LTab f xs) (r : Int) (r0 : 0 ≤ r) (x n : Int) (x0 : f ≤ x) (n0 : 0 ≤ n) : 0 ≤ cN r xs (x + n - f).toNat ∧ cN r xs (x + n - f).toNat ≤ cN r xs (x - f).toNat := by
  refine ⟨(h.cN_bd r r0 _).1, ?_⟩
  have := h.cN_mono r r0 (x - f).toNat n.toNat
  rw [show (x - f).toNat + n.toNat = (x + n - f).toNat by omega] at this
  exact this

theorem upV_bd (a b c m : Int) (h0 : 0 ≤ a) (h1 : 0 ≤ b) (h2 : 1 ≤ c) (hq : a * b / c ≤ m) : 0 ≤ upV a b c ∧ upV a b c ≤ m + 1 := by
  have := Int.ediv_nonneg (Int.mul_nonneg h0 h1) (show 0 ≤ c by omega)
  unfold upV
  split <;> omega

theorem sure_q (r b : Int) (n : Int) (r0 : 0 ≤ r) (n0 : 0 ≤ n) (n1 : n ≤ 120) (b0 : 0 ≤ b) (b1 : b ≤ 1000000) : 0 ≤ dsum r 0 n.toNat ∧ dsum r 0 n.toNat ≤ 120000000000 ∧ b * dsum r 0 n.toNat / 1000000000 ≤ 120000000 := by
  obtain ⟨d0, d1⟩ := dsum_bd r r0 0 n.toNat
  refine ⟨d0, by omega, ?_⟩
  have e : b * dsum r 0 n.toNat ≤ 1000000 * 120000000000 := Int.mul_le_mul b1 (by omega) d0 (by omega)
  omega

end Go.Proofs.YtlcmgihaelgclaaGreat

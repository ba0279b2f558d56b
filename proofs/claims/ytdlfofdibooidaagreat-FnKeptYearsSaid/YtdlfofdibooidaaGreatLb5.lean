/- Merged: MdM, Mon. -/
import Derived.Test.YtdlfofdibooidaaGreatLb1
import Derived.Test.YtdlfofdibooidaaGreatLb4
import Derived.Laws.Bits64b
import Derived.Laws.MathBits

/- The numbers of a division of two words by one, digit by digit. -/
namespace Go.Proofs.YtdlfofdibooidaaGreat
open Go.ChangeShapes Go.WideShapes Go.ChangeAt Go.RowKit
set_option linter.unusedVariables false

/-- a digit of the quotient: the divisor has two digits, its first one is large; what is left is less than the divisor -/
structure Dig (U y1 y0 Y v : Int) : Prop where
  eq : Y = y1 * 4294967296 + y0
  lo1 : 2147483648 ≤ y1
  hi1 : y1 < 4294967296
  lo0 : 0 ≤ y0
  hi0 : y0 < 4294967296
  u0 : 0 ≤ U
  u1 : U < Y
  v0 : 0 ≤ v
  v1 : v < 4294967296

theorem Dig.qt {U y1 y0 Y v : Int} (h : Dig U y1 y0 Y v) : 0 ≤ (U * 4294967296 + v) / Y ∧ (U * 4294967296 + v) / Y < 4294967296 := by
  obtain ⟨e, a, b, c, d, u0, u1, v0, v1⟩ := h
  refine ⟨Int.ediv_nonneg (by omega) (by omega), Int.ediv_lt_of_lt_mul (by omega) (by omega)⟩

theorem Dig.rt {U y1 y0 Y v : Int} (h : Dig U y1 y0 Y v) : 0 ≤ (U * 4294967296 + v) % Y ∧ (U * 4294967296 + v) % Y < Y := by
  obtain ⟨e, a, b, c, d, u0, u1, v0, v1⟩ := h
  exact ⟨Int.emod_nonneg _ (by omega), Int.emod_lt_of_pos _ (by omega)⟩

theorem Dig.mul {U y1 y0 Y v : Int} (h : Dig U y1 y0 Y v) (Q : Int) : Q * Y = Q * y1 * 4294967296 + Q * y0 := by
  rw [h.eq, Int.mul_add, Int.mul_assoc]

theorem Dig.qm {U y1 y0 Y v : Int} (h : Dig U y1 y0 Y v) : (U * 4294967296 + v) / Y * Y + (U * 4294967296 + v) % Y = U * 4294967296 + v := Int.ediv_mul_add_emod _ _

/-- the first guess -/
theorem Dig.start {U y1 y0 Y v : Int} (h : Dig U y1 y0 Y v) : (U * 4294967296 + v) / Y ≤ U / y1 ∧ 0 ≤ U / y1 ∧ U / y1 ≤ 4294967297 ∧ U / y1 * y1 + U % y1 = U ∧ 0 ≤ U % y1 ∧ U % y1 < 4294967296 := by
  have hm := h.mul ((U * 4294967296 + v) / Y)
  have hq := h.qm
  obtain ⟨r0, r1⟩ := h.rt
  obtain ⟨q0, q1⟩ := h.qt
  obtain ⟨e, a, b, c, d, u0, u1, v0, v1⟩ := h
  have hz := Int.mul_nonneg q0 c
  have m0 := Int.emod_nonneg U (b := y1) (by omega)
  have m1 := Int.emod_lt_of_pos U (b := y1) (by omega)
  refine ⟨Int.le_ediv_of_mul_le (by omega) ?_, Int.ediv_nonneg u0 (by omega), ?_, Int.ediv_mul_add_emod _ _, m0, by omega⟩
  · omega
  · exact Int.lt_add_one_iff.1 (Int.ediv_lt_of_lt_mul (by omega) (by omega))

/-- a guess that is too great -/
theorem Dig.down {U y1 y0 Y v Q R : Int} (h : Dig U y1 y0 Y v) (hr : Q * y1 + R = U) (hq : (U * 4294967296 + v) / Y ≤ Q) (hc : 4294967296 ≤ Q ∨ 4294967296 * R + v < Q * y0) : (U * 4294967296 + v) / Y ≤ Q - 1 ∧ (Q - 1) * y1 + (R + y1) = U := by
  refine ⟨?_, by rw [Int.sub_mul]; omega⟩
  rcases hc with hc | hc
  · have := h.qt.2; omega
  · have hm := h.mul Q
    have hY : 0 < Y := by have := h.u0; have := h.u1; omega
    have : (U * 4294967296 + v) / Y < Q := Int.ediv_lt_of_lt_mul hY (by omega)
    omega

/-- a guess that is right -/
theorem Dig.stop {U y1 y0 Y v Q R : Int} (h : Dig U y1 y0 Y v) (hr : Q * y1 + R = U) (hq : (U * 4294967296 + v) / Y ≤ Q) (hc : Q * y0 ≤ 4294967296 * R + v) : Q = (U * 4294967296 + v) / Y := by
  have hm := h.mul Q
  have hY : 0 < Y := by have := h.u0; have := h.u1; omega
  have : Q ≤ (U * 4294967296 + v) / Y := Int.le_ediv_of_mul_le hY (by omega)
  omega

theorem Dig.far {U y1 y0 Y v Q R : Int} (h : Dig U y1 y0 Y v) (hr : Q * y1 + R = U) (hq : (U * 4294967296 + v) / Y ≤ Q) (q0 : 0 ≤ Q) (q1 : Q ≤ 4294967296) (hc : 4294967296 ≤ R) : Q = (U * 4294967296 + v) / Y := by
  refine h.stop hr hq ?_
  have h1 : Q * y0 ≤ 4294967296 * 4294967295 := Int.le_trans (Int.mul_le_mul_of_nonneg_right q1 h.lo0) (Int.mul_le_mul_of_nonneg_left (by have := h.hi0; omega) (by omega))
  have := h.v0
  omega

/-- a product of a digit and a digit fits -/
theorem dig_prod (Q y0 : Int) (q0 : 0 ≤ Q) (q1 : Q < 4294967296) (c : 0 ≤ y0) (d : y0 < 4294967296) : IntKind.u64.wrap (Q * y0) = Q * y0 := by
  have h0 := Int.mul_nonneg q0 c
  have h1 : Q * y0 ≤ 4294967295 * 4294967295 := Int.le_trans (Int.mul_le_mul_of_nonneg_right (show Q ≤ 4294967295 by omega) c) (Int.mul_le_mul_of_nonneg_left (by omega) (by omega))
  rw [IntKind.wrap_u64]; omega

/-- what is left of the first guess -/
theorem dig_rest (U y1 : Int) (u0 : 0 ≤ U) (u1 : U < 18446744073709551616) (h : 0 < y1) : IntKind.u64.wrap (U - IntKind.u64.wrap (U / y1 * y1)) = U % y1 := by
  have h1 := Int.ediv_mul_add_emod U y1
  have h2 := Int.emod_nonneg U (b := y1) (by omega)
  have h3 : 0 ≤ U / y1 * y1 := Int.mul_nonneg (Int.ediv_nonneg u0 (by omega)) (by omega)
  rw [IntKind.wrap_u64, IntKind.wrap_u64]; omega

/-- what is left of a digit -/
theorem Dig.left {U y1 y0 Y v : Int} (h : Dig U y1 y0 Y v) (hY : Y < 18446744073709551616) : IntKind.u64.wrap (IntKind.u64.wrap (IntKind.u64.wrap (U * 4294967296) + v) - IntKind.u64.wrap ((U * 4294967296 + v) / Y * Y)) = (U * 4294967296 + v) % Y := by
  have h1 := h.qm
  obtain ⟨r0, r1⟩ := h.rt
  obtain ⟨Z, hZ⟩ : ∃ Z, (U * 4294967296 + v) / Y * Y = Z := ⟨_, rfl⟩
  rw [hZ] at h1 ⊢
  rw [IntKind.wrap_u64, IntKind.wrap_u64, IntKind.wrap_u64, IntKind.wrap_u64]; omega

/-- both digits together -/
theorem dig_both (Z y p U V v1 v0 Y q1 w1 q0 w0 : Int) (hp : 0 < p) (hZ : U * 18446744073709551616 + V = Z * p) (hV : V = v1 * 4294967296 + v0) (hY : Y = y * p) (e1 : q1 * Y + w1 = U * 4294967296 + v1) (e0 : q0 * Y + w0 = w1 * 4294967296 + v0) (hw0 : 0 ≤ w0) (hw1 : w0 < Y) :
    Z / y = q1 * 4294967296 + q0 ∧ Z % y = w0 / p := by
  have h1 : Z * p = (q1 * 4294967296 + q0) * Y + w0 := by
    rw [Int.add_mul, Int.mul_right_comm]; omega
  have h2 : w0 = (Z - (q1 * 4294967296 + q0) * y) * p := by
    rw [hY, ← Int.mul_assoc] at h1
    rw [Int.sub_mul]; omega
  have h3 : w0 / p = Z - (q1 * 4294967296 + q0) * y := by rw [h2, Int.mul_ediv_cancel _ (by omega)]
  have h4 : 0 ≤ w0 / p := Int.ediv_nonneg hw0 (by omega)
  have h5 : w0 / p < y := Int.ediv_lt_of_lt_mul hp (by rw [← hY]; exact hw1)
  exact md_uniq Z y (q1 * 4294967296 + q0) (w0 / p) (by omega) h4 h5

end Go.Proofs.YtdlfofdibooidaaGreat

/- Chapter 2's functions on numbers: what each call of the program and of its model returns, one Lean function for both. -/
namespace Go.Proofs.YtdlfofdibooidaaGreat
open Go.ChangeShapes Go.WideShapes Go.ChangeAt Go.RowKit
set_option linter.unusedVariables false

/-- whether a number is a month -/
def mthB (n : Int) : Bool := inB n 0 35999

theorem mthB_iff (n : Int) : mthB n = true ↔ 0 ≤ n ∧ n ≤ 35999 := inB_iff _ _ _

def moB (y m : Int) : Bool := inB y 0 2999 && inB m 1 12

def moV (y m : Int) : Int := if moB y m then 12 * y + m - 1 else 0

def moE (y m : Int) : Int := if moB y m then 0 else 2

def yoY (n : Int) : Int := if mthB n then n / 12 else 0

def yoM (n : Int) : Int := if mthB n then n % 12 + 1 else 0

def yoE (n : Int) : Int := if mthB n then 0 else 2

def fyE (a b : Int) : Int := if mthB a then (if mthB b then (if b < a then 5 else 0) else 2) else 2

def fyY (a b : Int) : Int := if fyE a b = 0 then (b - a) / 12 else 0

def fyM (a b : Int) : Int := if fyE a b = 0 then (b - a) % 12 else 0

/-- the next birthday, in its range or not -/
def nbX (a b : Int) : Int := a + 12 * ((b - a) / 12 + 1)

def nbV (a b : Int) : Int := if fyE a b = 0 then (if mthB (nbX a b) then nbX a b else 0) else 0

def nbE (a b : Int) : Int := if fyE a b = 0 then (if mthB (nbX a b) then 0 else 3) else fyE a b

def amB (n k : Int) : Bool := mthB n && inB k (-36000) 36000

def amV (n k : Int) : Int := if amB n k then (if mthB (n + k) then n + k else 0) else 0

def amE (n k : Int) : Int := if amB n k then (if mthB (n + k) then 0 else 3) else 2

theorem ret_iii {a b c d x y : Int} (h : a = b) (g : c = d) (k : x = y) : Ending.returned (.tuple #[.int .i64 a, .int .i64 c, .int .i64 x]) = .returned (.tuple #[.int .i64 b, .int .i64 d, .int .i64 y]) := by rw [h, g, k]

/-- two months in their order, or not -/
theorem fy_split (a b : Int) : (fyE a b = 0 ∧ (fyE a b == 0) = true ∧ (fyE a b != 0) = false ∧ 0 ≤ a ∧ a ≤ b ∧ b ≤ 35999) ∨ (fyE a b ≠ 0 ∧ (fyE a b == 0) = false ∧ (fyE a b != 0) = true) := by
  by_cases h : fyE a b = 0
  · refine .inl ⟨h, by simp [h], by simp [h], ?_⟩
    unfold fyE at h
    split at h
    · next h1 =>
      split at h
      · next h2 =>
        have := (mthB_iff _).1 h1
        have := (mthB_iff _).1 h2
        split at h
        · cases h
        · omega
      · cases h
    · cases h
  · exact .inr ⟨h, by simp [h], by simp [h]⟩

end Go.Proofs.YtdlfofdibooidaaGreat

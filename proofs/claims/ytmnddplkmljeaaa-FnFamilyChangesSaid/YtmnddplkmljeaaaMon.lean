/- Chapter 2's functions on numbers: what each call of the program and of its model returns, one Lean function for both. -/
import Derived.Test.YtmnddplkmljeaaaNums
namespace Go.Proofs.Ytmnddplkmljeaaa
open Go.ChangeShapes Go.WideShapes Go.ChangeAt Go.RowKit
set_option linter.unusedVariables false

/-- whether a number is a month -/
def mthB (n : Int) : Bool := inB n 0 35999

theorem mthB_iff (n : Int) : mthB n = true ↔ 0 ≤ n ∧ n ≤ 35999 := inB_iff _ _ _

def moB (y m : Int) : Bool := inB y 0 2999 && inB m 1 12

def moV (y m : Int) : Int := if moB y m then 12 * y + m - 1 else 0

def moE (y m : Int) : Int := if moB y m then 0 else 2

def yoY (n : Int) : Int := if mthB n then n / 12 else 0

def yoM (n : Int) : Int := if mthB n then n % 12 + 1 else 0

def yoE (n : Int) : Int := if mthB n then 0 else 2

def fyE (a b : Int) : Int := if mthB a then (if mthB b then (if b < a then 5 else 0) else 2) else 2

def fyY (a b : Int) : Int := if fyE a b = 0 then (b - a) / 12 else 0

def fyM (a b : Int) : Int := if fyE a b = 0 then (b - a) % 12 else 0

/-- the next birthday, in its range or not -/
def nbX (a b : Int) : Int := a + 12 * ((b - a) / 12 + 1)

def nbV (a b : Int) : Int := if fyE a b = 0 then (if mthB (nbX a b) then nbX a b else 0) else 0

def nbE (a b : Int) : Int := if fyE a b = 0 then (if mthB (nbX a b) then 0 else 3) else fyE a b

def amB (n k : Int) : Bool := mthB n && inB k (-36000) 36000

def amV (n k : Int) : Int := if amB n k then (if mthB (n + k) then n + k else 0) else 0

def amE (n k : Int) : Int := if amB n k then (if mthB (n + k) then 0 else 3) else 2

theorem ret_iii {a b c d x y : Int} (h : a = b) (g : c = d) (k : x = y) : Ending.returned (.tuple #[.int .i64 a, .int .i64 c, .int .i64 x]) = .returned (.tuple #[.int .i64 b, .int .i64 d, .int .i64 y]) := by rw [h, g, k]

theorem mvalid_any (n : Int) (w : World) : Calls Try.prog 74 #[.int .i64 n] w fun e w' => e = .returned (.bool (mthB n)) ∧ w = w' := by
  go_enter Try.func74, Try.ntmps74
  go_wp2_with (go_at_call 75; refine (within_any _ _ _ _).mono ?_; rintro e w' ⟨rfl, rfl⟩)
  go_ret
  exact ⟨rfl, rfl⟩

theorem l02m_any (n : Int) (w : World) : Calls Try.prog 81 #[.int .i64 n] w fun e w' => e = .returned (.bool (mthB n)) ∧ w = w' := by
  go_enter Try.func81, Try.ntmps81
  go_wp2_with (go_at_call 82; refine (in_any _ _ _ _).mono ?_; rintro e w' ⟨rfl, rfl⟩)
  go_ret
  exact ⟨rfl, rfl⟩

/-- two months in their order, or not -/
theorem fy_split (a b : Int) : (fyE a b = 0 ∧ (fyE a b == 0) = true ∧ (fyE a b != 0) = false ∧ 0 ≤ a ∧ a ≤ b ∧ b ≤ 35999) ∨ (fyE a b ≠ 0 ∧ (fyE a b == 0) = false ∧ (fyE a b != 0) = true) := by
  by_cases h : fyE a b = 0
  · refine .inl ⟨h, by simp [h], by simp [h], ?_⟩
    unfold fyE at h
    split at h
    · next h1 =>
      split at h
      · next h2 =>
        have := (mthB_iff _).1 h1
        have := (mthB_iff _).1 h2
        split at h
        · cases h
        · omega
      · cases h
    · cases h
  · exact .inr ⟨h, by simp [h], by simp [h]⟩

end Go.Proofs.Ytmnddplkmljeaaa

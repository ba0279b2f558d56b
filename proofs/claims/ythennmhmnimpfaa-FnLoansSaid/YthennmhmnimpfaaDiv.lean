/- DivideDown, DivideUp and PerMille of the program and of its model: what each call returns, one Lean function for both. -/
import Derived.Test.YthennmhmnimpfaaNums
namespace Go.Proofs.Ythennmhmnimpfaa
open Go.ChangeShapes Go.WideShapes Go.ChangeAt Go.RowKit
set_option linter.unusedVariables false

def ddB (a b : Int) : Bool := monB a && inB b 1 1000000000

def ddV (a b : Int) : Int := if ddB a b then a / b else 0

def ddE (a b : Int) : Int := if ddB a b then 0 else 2

def duV (a b : Int) : Int := if ddB a b then -(-a / b) else 0

def pmB (a r : Int) : Bool := monB a && inB r 0 1000

def pmV (a r : Int) : Int := if pmB a r then a * r / 1000 else 0

def pmE (a r : Int) : Int := if pmB a r then 0 else 2

theorem ddB_iff (a b : Int) : ddB a b = true ↔ (-1000000000000 ≤ a ∧ a ≤ 1000000000000) ∧ (1 ≤ b ∧ b ≤ 1000000000) := by
  unfold ddB; rw [Bool.and_eq_true, monB_iff, inB_iff]

theorem pmB_iff (a r : Int) : pmB a r = true ↔ (-1000000000000 ≤ a ∧ a ≤ 1000000000000) ∧ (0 ≤ r ∧ r ≤ 1000) := by
  unfold pmB; rw [Bool.and_eq_true, monB_iff, inB_iff]

theorem du_impl (a b : Int) (w : World) : Calls Try.prog 30 #[.int .i64 a, .int .i64 b] w fun e w' => e = .returned (.tuple #[.int .i64 (duV a b), .int .i64 (ddE a b)]) ∧ w = w' := by
  by_cases h1 : monB a = true
  · obtain ⟨ha1, ha2⟩ := (monB_iff a).1 h1
    by_cases h2 : inB b 1 1000000000 = true
    · obtain ⟨hb1, hb2⟩ := (inB_iff _ _ _).1 h2
      go_enter Try.func30, Try.ntmps30
      go_wp2_with (first | (go_at_call 65; refine (valid_any _ _).mono ?_; rintro e w' ⟨rfl, rfl⟩) | (go_at_call 66; refine (within_any _ _ _ _).mono ?_; rintro e w' ⟨rfl, rfl⟩) | (go_at_call 57; refine (partUp_any _ _ _ _ ha1 ha2 (by omega) (by omega) hb1).mono ?_; rintro e w' ⟨rfl, rfl⟩))
      go_ret2
      exact ⟨ret_ii (by simp [duV, ddB, h1, h2]) (by simp [ddE, ddB, h1, h2]), rfl⟩
    · go_enter Try.func30, Try.ntmps30
      go_wp2_with (first | (go_at_call 65; refine (valid_any _ _).mono ?_; rintro e w' ⟨rfl, rfl⟩) | (go_at_call 66; refine (within_any _ _ _ _).mono ?_; rintro e w' ⟨rfl, rfl⟩))
      go_ret2
      exact ⟨ret_ii (by simp [duV, ddB, h1, h2]) (by simp [ddE, ddB, h1, h2]), rfl⟩
  · go_enter Try.func30, Try.ntmps30
    go_wp2_with (first | (go_at_call 65; refine (valid_any _ _).mono ?_; rintro e w' ⟨rfl, rfl⟩) | (go_at_call 66; refine (within_any _ _ _ _).mono ?_; rintro e w' ⟨rfl, rfl⟩))
    go_ret2
    exact ⟨ret_ii (by simp [duV, ddB, h1]) (by simp [ddE, ddB, h1]), rfl⟩

end Go.Proofs.Ythennmhmnimpfaa

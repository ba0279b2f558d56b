/- DivideDown, DivideUp and PerMille of the program and of its model: what each call returns, one Lean function for both. -/
import Derived.Test.YtjcedfafeakikaaNums
namespace Go.Proofs.Ytjcedfafeakikaa
open Go.ChangeShapes Go.WideShapes Go.ChangeAt Go.RowKit
set_option linter.unusedVariables false

def ddB (a b : Int) : Bool := monB a && inB b 1 1000000000
def ddV (a b : Int) : Int := if ddB a b then a / b else 0
def ddE (a b : Int) : Int := if ddB a b then 0 else 2
def duV (a b : Int) : Int := if ddB a b then -(-a / b) else 0
def pmB (a r : Int) : Bool := monB a && inB r 0 1000
def pmV (a r : Int) : Int := if pmB a r then a * r / 1000 else 0
def pmE (a r : Int) : Int := if pmB a r then 0 else 2

theorem ddB_iff (a b : Int) : ddB a b = true ↔ (-1000000000000 ≤ a ∧ a ≤ 1000000000000) ∧ (1 ≤ b ∧ b ≤ 1000000000) := by
  unfold ddB; rw [Bool.and_eq_true, monB_iff, inB_iff]
theorem pmB_iff (a r : Int) : pmB a r = true ↔ (-1000000000000 ≤ a ∧ a ≤ 1000000000000) ∧ (0 ≤ r ∧ r ≤ 1000) := by
  unfold pmB; rw [Bool.and_eq_true, monB_iff, inB_iff]

theorem dd_impl (a b : Int) (w : World) : Calls Try.prog 14 #[.int .i64 a, .int .i64 b] w fun e w' => e = .returned (.tuple #[.int .i64 (ddV a b), .int .i64 (ddE a b)]) ∧ w = w' := by
  by_cases h1 : monB a = true
  · obtain ⟨ha1, ha2⟩ := (monB_iff a).1 h1
    by_cases h2 : inB b 1 1000000000 = true
    · obtain ⟨hb1, hb2⟩ := (inB_iff _ _ _).1 h2
      go_enter Try.func14, Try.ntmps14
      go_wp2_with (first | (go_at_call 39; refine (valid_any _ _).mono ?_; rintro e w' ⟨rfl, rfl⟩) | (go_at_call 40; refine (within_any _ _ _ _).mono ?_; rintro e w' ⟨rfl, rfl⟩) | (go_at_call 41; refine (partDown_any _ _ _ _ ha1 ha2 (by omega) (by omega) hb1).mono ?_; rintro e w' ⟨rfl, rfl⟩))
      go_ret2
      exact ⟨ret_ii (by simp [ddV, ddB, h1, h2]) (by simp [ddE, ddB, h1, h2]), rfl⟩
    · go_enter Try.func14, Try.ntmps14
      go_wp2_with (first | (go_at_call 39; refine (valid_any _ _).mono ?_; rintro e w' ⟨rfl, rfl⟩) | (go_at_call 40; refine (within_any _ _ _ _).mono ?_; rintro e w' ⟨rfl, rfl⟩))
      go_ret2
      exact ⟨ret_ii (by simp [ddV, ddB, h1, h2]) (by simp [ddE, ddB, h1, h2]), rfl⟩
  · go_enter Try.func14, Try.ntmps14
    go_wp2_with (first | (go_at_call 39; refine (valid_any _ _).mono ?_; rintro e w' ⟨rfl, rfl⟩) | (go_at_call 40; refine (within_any _ _ _ _).mono ?_; rintro e w' ⟨rfl, rfl⟩))
    go_ret2
    exact ⟨ret_ii (by simp [ddV, ddB, h1]) (by simp [ddE, ddB, h1]), rfl⟩

theorem dd_spec (a b : Int) (w : World) : Calls Try.prog 15 #[.int .i64 a, .int .i64 b] w fun e w' => e = .returned (.tuple #[.int .i64 (ddV a b), .int .i64 (ddE a b)]) ∧ w = w' := by
  by_cases h1 : monB a = true
  · obtain ⟨ha1, ha2⟩ := (monB_iff a).1 h1
    by_cases h2 : inB b 1 1000000000 = true
    · obtain ⟨hb1, hb2⟩ := (inB_iff _ _ _).1 h2
      go_enter Try.func15, Try.ntmps15
      go_wp2_with (first | (go_at_call 42; refine (money_any _ _).mono ?_; rintro e w' ⟨rfl, rfl⟩) | (go_at_call 43; refine (in_any _ _ _ _).mono ?_; rintro e w' ⟨rfl, rfl⟩) | (go_at_call 44; refine (down_any _ _ _ (by omega) (by omega) hb1).mono ?_; rintro e w' ⟨rfl, rfl⟩))
      go_ret2
      exact ⟨ret_ii (by simp [ddV, ddB, h1, h2]) (by simp [ddE, ddB, h1, h2]), rfl⟩
    · go_enter Try.func15, Try.ntmps15
      go_wp2_with (first | (go_at_call 42; refine (money_any _ _).mono ?_; rintro e w' ⟨rfl, rfl⟩) | (go_at_call 43; refine (in_any _ _ _ _).mono ?_; rintro e w' ⟨rfl, rfl⟩))
      go_ret2
      exact ⟨ret_ii (by simp [ddV, ddB, h1, h2]) (by simp [ddE, ddB, h1, h2]), rfl⟩
  · go_enter Try.func15, Try.ntmps15
    go_wp2_with (first | (go_at_call 42; refine (money_any _ _).mono ?_; rintro e w' ⟨rfl, rfl⟩) | (go_at_call 43; refine (in_any _ _ _ _).mono ?_; rintro e w' ⟨rfl, rfl⟩))
    go_ret2
    exact ⟨ret_ii (by simp [ddV, ddB, h1]) (by simp [ddE, ddB, h1]), rfl⟩

theorem du_impl (a b : Int) (w : World) : Calls Try.prog 16 #[.int .i64 a, .int .i64 b] w fun e w' => e = .returned (.tuple #[.int .i64 (duV a b), .int .i64 (ddE a b)]) ∧ w = w' := by
  by_cases h1 : monB a = true
  · obtain ⟨ha1, ha2⟩ := (monB_iff a).1 h1
    by_cases h2 : inB b 1 1000000000 = true
    · obtain ⟨hb1, hb2⟩ := (inB_iff _ _ _).1 h2
      go_enter Try.func16, Try.ntmps16
      go_wp2_with (first | (go_at_call 39; refine (valid_any _ _).mono ?_; rintro e w' ⟨rfl, rfl⟩) | (go_at_call 40; refine (within_any _ _ _ _).mono ?_; rintro e w' ⟨rfl, rfl⟩) | (go_at_call 45; refine (partUp_any _ _ _ _ ha1 ha2 (by omega) (by omega) hb1).mono ?_; rintro e w' ⟨rfl, rfl⟩))
      go_ret2
      exact ⟨ret_ii (by simp [duV, ddB, h1, h2]) (by simp [ddE, ddB, h1, h2]), rfl⟩
    · go_enter Try.func16, Try.ntmps16
      go_wp2_with (first | (go_at_call 39; refine (valid_any _ _).mono ?_; rintro e w' ⟨rfl, rfl⟩) | (go_at_call 40; refine (within_any _ _ _ _).mono ?_; rintro e w' ⟨rfl, rfl⟩))
      go_ret2
      exact ⟨ret_ii (by simp [duV, ddB, h1, h2]) (by simp [ddE, ddB, h1, h2]), rfl⟩
  · go_enter Try.func16, Try.ntmps16
    go_wp2_with (first | (go_at_call 39; refine (valid_any _ _).mono ?_; rintro e w' ⟨rfl, rfl⟩) | (go_at_call 40; refine (within_any _ _ _ _).mono ?_; rintro e w' ⟨rfl, rfl⟩))
    go_ret2
    exact ⟨ret_ii (by simp [duV, ddB, h1]) (by simp [ddE, ddB, h1]), rfl⟩

theorem du_spec (a b : Int) (w : World) : Calls Try.prog 17 #[.int .i64 a, .int .i64 b] w fun e w' => e = .returned (.tuple #[.int .i64 (duV a b), .int .i64 (ddE a b)]) ∧ w = w' := by
  by_cases h1 : monB a = true
  · obtain ⟨ha1, ha2⟩ := (monB_iff a).1 h1
    by_cases h2 : inB b 1 1000000000 = true
    · obtain ⟨hb1, hb2⟩ := (inB_iff _ _ _).1 h2
      go_enter Try.func17, Try.ntmps17
      go_wp2_with (first | (go_at_call 42; refine (money_any _ _).mono ?_; rintro e w' ⟨rfl, rfl⟩) | (go_at_call 43; refine (in_any _ _ _ _).mono ?_; rintro e w' ⟨rfl, rfl⟩) | (go_at_call 46; refine (up_any _ _ _ (by omega) (by omega) hb1).mono ?_; rintro e w' ⟨rfl, rfl⟩))
      go_ret2
      exact ⟨ret_ii (by simp [duV, ddB, h1, h2]) (by simp [ddE, ddB, h1, h2]), rfl⟩
    · go_enter Try.func17, Try.ntmps17
      go_wp2_with (first | (go_at_call 42; refine (money_any _ _).mono ?_; rintro e w' ⟨rfl, rfl⟩) | (go_at_call 43; refine (in_any _ _ _ _).mono ?_; rintro e w' ⟨rfl, rfl⟩))
      go_ret2
      exact ⟨ret_ii (by simp [duV, ddB, h1, h2]) (by simp [ddE, ddB, h1, h2]), rfl⟩
  · go_enter Try.func17, Try.ntmps17
    go_wp2_with (first | (go_at_call 42; refine (money_any _ _).mono ?_; rintro e w' ⟨rfl, rfl⟩) | (go_at_call 43; refine (in_any _ _ _ _).mono ?_; rintro e w' ⟨rfl, rfl⟩))
    go_ret2
    exact ⟨ret_ii (by simp [duV, ddB, h1]) (by simp [ddE, ddB, h1]), rfl⟩

theorem pm_impl (a b : Int) (w : World) : Calls Try.prog 19 #[.int .i64 a, .int .i64 b] w fun e w' => e = .returned (.tuple #[.int .i64 (pmV a b), .int .i64 (pmE a b)]) ∧ w = w' := by
  by_cases h1 : monB a = true
  · obtain ⟨ha1, ha2⟩ := (monB_iff a).1 h1
    by_cases h2 : inB b 0 1000 = true
    · obtain ⟨hb1, hb2⟩ := (inB_iff _ _ _).1 h2
      go_enter Try.func19, Try.ntmps19
      go_wp2_with (first | (go_at_call 39; refine (valid_any _ _).mono ?_; rintro e w' ⟨rfl, rfl⟩) | (go_at_call 40; refine (within_any _ _ _ _).mono ?_; rintro e w' ⟨rfl, rfl⟩) | (go_at_call 41; refine (partDown_any _ _ _ _ ha1 ha2 hb1 hb2 (by omega)).mono ?_; rintro e w' ⟨rfl, rfl⟩))
      go_ret2
      exact ⟨ret_ii (by simp [pmV, pmB, h1, h2]) (by simp [pmE, pmB, h1, h2]), rfl⟩
    · go_enter Try.func19, Try.ntmps19
      go_wp2_with (first | (go_at_call 39; refine (valid_any _ _).mono ?_; rintro e w' ⟨rfl, rfl⟩) | (go_at_call 40; refine (within_any _ _ _ _).mono ?_; rintro e w' ⟨rfl, rfl⟩))
      go_ret2
      exact ⟨ret_ii (by simp [pmV, pmB, h1, h2]) (by simp [pmE, pmB, h1, h2]), rfl⟩
  · go_enter Try.func19, Try.ntmps19
    go_wp2_with (first | (go_at_call 39; refine (valid_any _ _).mono ?_; rintro e w' ⟨rfl, rfl⟩) | (go_at_call 40; refine (within_any _ _ _ _).mono ?_; rintro e w' ⟨rfl, rfl⟩))
    go_ret2
    exact ⟨ret_ii (by simp [pmV, pmB, h1]) (by simp [pmE, pmB, h1]), rfl⟩

theorem pm_spec (a b : Int) (w : World) : Calls Try.prog 20 #[.int .i64 a, .int .i64 b] w fun e w' => e = .returned (.tuple #[.int .i64 (pmV a b), .int .i64 (pmE a b)]) ∧ w = w' := by
  by_cases h1 : monB a = true
  · obtain ⟨ha1, ha2⟩ := (monB_iff a).1 h1
    by_cases h2 : inB b 0 1000 = true
    · obtain ⟨hb1, hb2⟩ := (inB_iff _ _ _).1 h2
      have hp1 : -1000000000000000 ≤ a * b := by
        have := Int.mul_le_mul_of_nonneg_right ha1 hb1; omega
      have hp2 : a * b ≤ 1000000000000000 := by
        have := Int.mul_le_mul_of_nonneg_right ha2 hb1; omega
      go_enter Try.func20, Try.ntmps20
      go_wp2_with (first | (go_at_call 42; refine (money_any _ _).mono ?_; rintro e w' ⟨rfl, rfl⟩) | (go_at_call 43; refine (in_any _ _ _ _).mono ?_; rintro e w' ⟨rfl, rfl⟩) | (go_at_call 44; refine (down_any _ _ _ (by omega) (by omega) (by omega)).mono ?_; rintro e w' ⟨rfl, rfl⟩))
      go_ret2
      exact ⟨ret_ii (by simp [pmV, pmB, h1, h2]) (by simp [pmE, pmB, h1, h2]), rfl⟩
    · go_enter Try.func20, Try.ntmps20
      go_wp2_with (first | (go_at_call 42; refine (money_any _ _).mono ?_; rintro e w' ⟨rfl, rfl⟩) | (go_at_call 43; refine (in_any _ _ _ _).mono ?_; rintro e w' ⟨rfl, rfl⟩))
      go_ret2
      exact ⟨ret_ii (by simp [pmV, pmB, h1, h2]) (by simp [pmE, pmB, h1, h2]), rfl⟩
  · go_enter Try.func20, Try.ntmps20
    go_wp2_with (first | (go_at_call 42; refine (money_any _ _).mono ?_; rintro e w' ⟨rfl, rfl⟩) | (go_at_call 43; refine (in_any _ _ _ _).mono ?_; rintro e w' ⟨rfl, rfl⟩))
    go_ret2
    exact ⟨ret_ii (by simp [pmV, pmB, h1]) (by simp [pmE, pmB, h1]), rfl⟩

theorem fnExactDivideDown_walk (a0 : Int) (a1 : Int) (w0 : (Lit.int .i64 a0).wf = true) (w1 : (Lit.int .i64 a1).wf = true) (w : World) :
    Calls Try.prog 6 #[.int .i64 a0, .int .i64 a1] w fun e w' => e = .returned (.bool true) ∧ Below w.heap.size w w' := by
  go_enter Try.func6, Try.ntmps6
  go_wp2_with (first | (go_at_call 14; refine (dd_impl _ _ _).mono ?_; rintro e w' ⟨rfl, rfl⟩) | (go_at_call 15; refine (dd_spec _ _ _).mono ?_; rintro e w' ⟨rfl, rfl⟩))
  go_ret
  exact ⟨rfl, Below.refl _ _⟩

theorem fnExactDivideUp_walk (a0 : Int) (a1 : Int) (w0 : (Lit.int .i64 a0).wf = true) (w1 : (Lit.int .i64 a1).wf = true) (w : World) :
    Calls Try.prog 7 #[.int .i64 a0, .int .i64 a1] w fun e w' => e = .returned (.bool true) ∧ Below w.heap.size w w' := by
  go_enter Try.func7, Try.ntmps7
  go_wp2_with (first | (go_at_call 16; refine (du_impl _ _ _).mono ?_; rintro e w' ⟨rfl, rfl⟩) | (go_at_call 17; refine (du_spec _ _ _).mono ?_; rintro e w' ⟨rfl, rfl⟩))
  go_ret
  exact ⟨rfl, Below.refl _ _⟩

theorem fnExactPerMille_walk (a0 : Int) (a1 : Int) (w0 : (Lit.int .i64 a0).wf = true) (w1 : (Lit.int .i64 a1).wf = true) (w : World) :
    Calls Try.prog 8 #[.int .i64 a0, .int .i64 a1] w fun e w' => e = .returned (.bool true) ∧ Below w.heap.size w w' := by
  go_enter Try.func8, Try.ntmps8
  go_wp2_with (first | (go_at_call 19; refine (pm_impl _ _ _).mono ?_; rintro e w' ⟨rfl, rfl⟩) | (go_at_call 20; refine (pm_spec _ _ _).mono ?_; rintro e w' ⟨rfl, rfl⟩))
  go_ret
  exact ⟨rfl, Below.refl _ _⟩

end Go.Proofs.Ytjcedfafeakikaa

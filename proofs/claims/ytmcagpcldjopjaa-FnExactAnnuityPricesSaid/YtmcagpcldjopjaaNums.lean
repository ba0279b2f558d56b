/- The small functions of chapter 1 that compute with numbers (ranges, rounding): what each of their calls returns, and that it leaves memory as it was. -/
import Derived.Test.YtmcagpcldjopjaaBase
namespace Go.Proofs.Ytmcagpcldjopjaa
open Go.ChangeShapes Go.WideShapes Go.ChangeAt Go.RowKit
set_option linter.unusedVariables false


/-! ### plain numbers -/

theorem down_of (a b : Int) (hb : 1 ≤ b) : (a.tmod b < 0 → a.tdiv b - 1 = a / b) ∧ (¬ a.tmod b < 0 → a.tdiv b = a / b) := by
  have h1 := Int.mul_tdiv_add_tmod a b
  have h2 := Int.mul_ediv_add_emod a b
  have h3 := Int.emod_nonneg a (show b ≠ 0 by omega)
  have h4 := Int.emod_lt_of_pos a (show 0 < b by omega)
  have h5 : a.tmod b < b := Int.tmod_lt_of_pos a (by omega)
  have h6 : -b < a.tmod b := by
    have := Int.tmod_lt_of_pos (-a) (show 0 < b by omega)
    rw [Int.neg_tmod] at this; omega
  constructor
  · intro h
    have e : b * (a.tdiv b - 1 - a / b) = a % b - a.tmod b - b := by rw [Int.mul_sub, Int.mul_sub]; omega
    have l : a.tdiv b - 1 - a / b < 1 := by
      refine Int.lt_of_mul_lt_mul_left (a := b) ?_ (by omega); omega
    have g : -1 < a.tdiv b - 1 - a / b := by
      refine Int.lt_of_mul_lt_mul_left (a := b) ?_ (by omega); omega
    omega
  · intro h
    have e : b * (a.tdiv b - a / b) = a % b - a.tmod b := by rw [Int.mul_sub]; omega
    have l : a.tdiv b - a / b < 1 := by
      refine Int.lt_of_mul_lt_mul_left (a := b) ?_ (by omega); omega
    have g : -1 < a.tdiv b - a / b := by
      refine Int.lt_of_mul_lt_mul_left (a := b) ?_ (by omega); omega
    omega

theorem div_bd (a b M : Int) (hb : 1 ≤ b) (hM : 0 ≤ M) (h1 : -M ≤ a) (h2 : a ≤ M) : -M ≤ a / b ∧ a / b ≤ M := by
  constructor
  · rw [Int.le_ediv_iff_mul_le (by omega)]
    have : M * 1 ≤ M * b := Int.mul_le_mul_of_nonneg_left hb hM
    rw [Int.neg_mul]; omega
  · have := Int.ediv_le_ediv (show 0 < b by omega) h2
    have := Int.ediv_le_self b hM
    omega

theorem tdiv_bd (a b M : Int) (hb : 1 ≤ b) (hM : 0 ≤ M) (h1 : -M ≤ a) (h2 : a ≤ M) : -M ≤ a.tdiv b ∧ a.tdiv b ≤ M := by
  have h := Int.natAbs_tdiv_le_natAbs a b
  omega

/-! ### the walks -/

/-- whether a number lies in a range -/
def inB (n lo hi : Int) : Bool := decide (lo ≤ n) && decide (n ≤ hi)

theorem inB_t {n lo hi : Int} (h1 : lo ≤ n) (h2 : n ≤ hi) : inB n lo hi = true := by simp [inB, h1, h2]

theorem inB_f {n lo hi : Int} (h : ¬ (lo ≤ n ∧ n ≤ hi)) : inB n lo hi = false := by
  unfold inB; rw [Bool.eq_false_iff]; intro hh; simp at hh; exact h hh

theorem inB_iff (n lo hi : Int) : inB n lo hi = true ↔ lo ≤ n ∧ n ≤ hi := by simp [inB]

/-- whether a number is money -/
def monB (n : Int) : Bool := inB n (-1000000000000) 1000000000000

theorem monB_iff (n : Int) : monB n = true ↔ -1000000000000 ≤ n ∧ n ≤ 1000000000000 := inB_iff _ _ _

theorem in_any (n lo hi : Int) (w : World) : Calls Try.prog 74 #[.int .i64 n, .int .i64 lo, .int .i64 hi] w fun e w' => e = .returned (.bool (inB n lo hi)) ∧ w = w' := by
  by_cases h1 : lo ≤ n
  all_goals
    go_enter Try.func74, Try.ntmps74
    go_wp2
    go_ret
    exact ⟨ret_bool (by simp [inB]; omega), rfl⟩

theorem within_any (n lo hi : Int) (w : World) : Calls Try.prog 70 #[.int .i64 n, .int .i64 lo, .int .i64 hi] w fun e w' => e = .returned (.bool (inB n lo hi)) ∧ w = w' := by
  by_cases h1 : lo ≤ n
  all_goals
    go_enter Try.func70, Try.ntmps70
    go_wp2
    go_ret
    exact ⟨ret_bool (by simp [inB]; omega), rfl⟩

theorem down_any (a b : Int) (w : World) (h1 : -1000000000000000 ≤ a) (h2 : a ≤ 1000000000000000) (h5 : 1 ≤ b) : Calls Try.prog 111 #[.int .i64 a, .int .i64 b] w fun e w' => e = .returned (.int .i64 (a / b)) ∧ w = w' := by
  obtain ⟨hb1, hb2⟩ := tdiv_bd a b 1000000000000000 h5 (by omega) h1 h2
  obtain ⟨d1, d2⟩ := down_of a b h5
  have D1 := Lib.hid d1
  have D2 := Lib.hid d2
  clear d1 d2
  by_cases hlt : a.tmod b < 0
  all_goals
    go_enter Try.func111, Try.ntmps111
    go_wp2
    go_ret
  · exact ⟨ret_int (D1.out hlt), rfl⟩
  · exact ⟨ret_int (D2.out (by omega)), rfl⟩

theorem up_any (a b : Int) (w : World) (h1 : -1000000000000000 ≤ a) (h2 : a ≤ 1000000000000000) (h5 : 1 ≤ b) : Calls Try.prog 107 #[.int .i64 a, .int .i64 b] w fun e w' => e = .returned (.int .i64 (-(-a / b))) ∧ w = w' := by
  obtain ⟨hb1, hb2⟩ := div_bd (-a) b 1000000000000000 h5 (by omega) (by omega) (by omega)
  go_enter Try.func107, Try.ntmps107
  go_wp2_with (go_at_call 111; refine (down_any _ _ _ (by omega) (by omega) h5).mono ?_; rintro e w' ⟨rfl, rfl⟩)
  go_ret
  exact ⟨rfl, rfl⟩

end Go.Proofs.Ytmcagpcldjopjaa

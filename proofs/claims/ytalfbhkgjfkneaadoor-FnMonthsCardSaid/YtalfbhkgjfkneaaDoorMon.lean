/- Chapter 2's functions on numbers: what each call of the program and of its model returns, one Lean function for both. -/
import Derived.Test.YtalfbhkgjfkneaaDoorNums
namespace Go.Proofs.YtalfbhkgjfkneaaDoor
open Go.ChangeShapes Go.WideShapes Go.ChangeAt Go.RowKit
set_option linter.unusedVariables false

/-- whether a number is a month -/
def mthB (n : Int) : Bool := inB n 0 35999

theorem mthB_iff (n : Int) : mthB n = true ↔ 0 ≤ n ∧ n ≤ 35999 := inB_iff _ _ _

def moB (y m : Int) : Bool := inB y 0 2999 && inB m 1 12

def moV (y m : Int) : Int := if moB y m then 12 * y + m - 1 else 0

def moE (y m : Int) : Int := if moB y m then 0 else 2

def yoY (n : Int) : Int := if mthB n then n / 12 else 0

def yoM (n : Int) : Int := if mthB n then n % 12 + 1 else 0

def yoE (n : Int) : Int := if mthB n then 0 else 2

def fyE (a b : Int) : Int := if mthB a then (if mthB b then (if b < a then 5 else 0) else 2) else 2

def fyY (a b : Int) : Int := if fyE a b = 0 then (b - a) / 12 else 0

def fyM (a b : Int) : Int := if fyE a b = 0 then (b - a) % 12 else 0

/-- the next birthday, in its range or not -/
def nbX (a b : Int) : Int := a + 12 * ((b - a) / 12 + 1)

def nbV (a b : Int) : Int := if fyE a b = 0 then (if mthB (nbX a b) then nbX a b else 0) else 0

def nbE (a b : Int) : Int := if fyE a b = 0 then (if mthB (nbX a b) then 0 else 3) else fyE a b

def amB (n k : Int) : Bool := mthB n && inB k (-36000) 36000

def amV (n k : Int) : Int := if amB n k then (if mthB (n + k) then n + k else 0) else 0

def amE (n k : Int) : Int := if amB n k then (if mthB (n + k) then 0 else 3) else 2

theorem ret_iii {a b c d x y : Int} (h : a = b) (g : c = d) (k : x = y) : Ending.returned (.tuple #[.int .i64 a, .int .i64 c, .int .i64 x]) = .returned (.tuple #[.int .i64 b, .int .i64 d, .int .i64 y]) := by rw [h, g, k]

theorem mvalid_any (n : Int) (w : World) : Calls Tryd.prog 23 #[.int .i64 n] w fun e w' => e = .returned (.bool (mthB n)) ∧ w = w' := by
  go_enter Tryd.func23, Tryd.ntmps23
  go_wp2_with (go_at_call 20; refine (within_any _ _ _ _).mono ?_; rintro e w' ⟨rfl, rfl⟩)
  go_ret
  exact ⟨rfl, rfl⟩

theorem l02m_any (n : Int) (w : World) : Calls Tryd.prog 25 #[.int .i64 n] w fun e w' => e = .returned (.bool (mthB n)) ∧ w = w' := by
  go_enter Tryd.func25, Tryd.ntmps25
  go_wp2_with (go_at_call 21; refine (in_any _ _ _ _).mono ?_; rintro e w' ⟨rfl, rfl⟩)
  go_ret
  exact ⟨rfl, rfl⟩

theorem since_any (m s : Int) (w : World) (h0 : 0 ≤ s) (h1 : s ≤ m) (h2 : m ≤ 36000) : Calls Tryd.prog 31 #[.int .i64 m, .int .i64 s] w fun e w' => e = .returned (.tuple #[.int .i64 ((m - s) / 12), .int .i64 ((m - s) % 12)]) ∧ w = w' := by
  have h3 : 0 ≤ m - s := by omega
  go_enter Tryd.func31, Tryd.ntmps31
  go_wp2
  go_ret2
  exact ⟨rfl, rfl⟩

theorem inYear_any (m : Int) (w : World) (h1 : 0 ≤ m) (h2 : m ≤ 36000) : Calls Tryd.prog 24 #[.int .i64 m] w fun e w' => e = .returned (.tuple #[.int .i64 (m / 12), .int .i64 (m % 12 + 1)]) ∧ w = w' := by
  go_enter Tryd.func24, Tryd.ntmps24
  go_wp2_with (go_at_call 31; refine (since_any _ _ _ (by omega) (by omega) (by omega)).mono ?_; rintro e w' ⟨rfl, rfl⟩)
  go_ret2
  exact ⟨ret_ii (by simp) (by simp), rfl⟩

theorem mo_impl (y m : Int) (w : World) : Calls Tryd.prog 7 #[.int .i64 y, .int .i64 m] w fun e w' => e = .returned (.tuple #[.int .i64 (moV y m), .int .i64 (moE y m)]) ∧ w = w' := by
  by_cases h1 : inB y 0 2999 = true
  · by_cases h2 : inB m 1 12 = true
    · obtain ⟨y1, y2⟩ := (inB_iff _ _ _).1 h1
      obtain ⟨m1, m2⟩ := (inB_iff _ _ _).1 h2
      go_enter Tryd.func7, Tryd.ntmps7
      go_wp2_with (go_at_call 20; refine (within_any _ _ _ _).mono ?_; rintro e w' ⟨rfl, rfl⟩)
      go_ret2
      exact ⟨ret_ii (by simp [moV, moB, h1, h2]) (by simp [moE, moB, h1, h2]), rfl⟩
    · go_enter Tryd.func7, Tryd.ntmps7
      go_wp2_with (go_at_call 20; refine (within_any _ _ _ _).mono ?_; rintro e w' ⟨rfl, rfl⟩)
      go_ret2
      exact ⟨ret_ii (by simp [moV, moB, h1, h2]) (by simp [moE, moB, h1, h2]), rfl⟩
  · go_enter Tryd.func7, Tryd.ntmps7
    go_wp2_with (go_at_call 20; refine (within_any _ _ _ _).mono ?_; rintro e w' ⟨rfl, rfl⟩)
    go_ret2
    exact ⟨ret_ii (by simp [moV, moB, h1]) (by simp [moE, moB, h1]), rfl⟩

theorem mo_spec (y m : Int) (w : World) : Calls Tryd.prog 8 #[.int .i64 y, .int .i64 m] w fun e w' => e = .returned (.tuple #[.int .i64 (moV y m), .int .i64 (moE y m)]) ∧ w = w' := by
  by_cases h1 : inB y 0 2999 = true
  · by_cases h2 : inB m 1 12 = true
    · obtain ⟨y1, y2⟩ := (inB_iff _ _ _).1 h1
      obtain ⟨m1, m2⟩ := (inB_iff _ _ _).1 h2
      go_enter Tryd.func8, Tryd.ntmps8
      go_wp2_with (go_at_call 21; refine (in_any _ _ _ _).mono ?_; rintro e w' ⟨rfl, rfl⟩)
      go_ret2
      exact ⟨ret_ii (by simp [moV, moB, h1, h2]) (by simp [moE, moB, h1, h2]), rfl⟩
    · go_enter Tryd.func8, Tryd.ntmps8
      go_wp2_with (go_at_call 21; refine (in_any _ _ _ _).mono ?_; rintro e w' ⟨rfl, rfl⟩)
      go_ret2
      exact ⟨ret_ii (by simp [moV, moB, h1, h2]) (by simp [moE, moB, h1, h2]), rfl⟩
  · go_enter Tryd.func8, Tryd.ntmps8
    go_wp2_with (go_at_call 21; refine (in_any _ _ _ _).mono ?_; rintro e w' ⟨rfl, rfl⟩)
    go_ret2
    exact ⟨ret_ii (by simp [moV, moB, h1]) (by simp [moE, moB, h1]), rfl⟩

theorem yo_impl (n : Int) (w : World) : Calls Tryd.prog 10 #[.int .i64 n] w fun e w' => e = .returned (.tuple #[.int .i64 (yoY n), .int .i64 (yoM n), .int .i64 (yoE n)]) ∧ w = w' := by
  by_cases h1 : mthB n = true
  · obtain ⟨n1, n2⟩ := (mthB_iff _).1 h1
    go_enter Tryd.func10, Tryd.ntmps10
    go_wp2_with (first | (go_at_call 23; refine (mvalid_any _ _).mono ?_; rintro e w' ⟨rfl, rfl⟩) | (go_at_call 24; refine (inYear_any _ _ (by omega) (by omega)).mono ?_; rintro e w' ⟨rfl, rfl⟩))
    go_ret3
    exact ⟨ret_iii (by simp [yoY, h1]) (by simp [yoM, h1]) (by simp [yoE, h1]), rfl⟩
  · go_enter Tryd.func10, Tryd.ntmps10
    go_wp2_with (go_at_call 23; refine (mvalid_any _ _).mono ?_; rintro e w' ⟨rfl, rfl⟩)
    go_ret3
    exact ⟨ret_iii (by simp [yoY, h1]) (by simp [yoM, h1]) (by simp [yoE, h1]), rfl⟩

theorem yo_spec (n : Int) (w : World) : Calls Tryd.prog 11 #[.int .i64 n] w fun e w' => e = .returned (.tuple #[.int .i64 (yoY n), .int .i64 (yoM n), .int .i64 (yoE n)]) ∧ w = w' := by
  by_cases h1 : mthB n = true
  · obtain ⟨n1, n2⟩ := (mthB_iff _).1 h1
    go_enter Tryd.func11, Tryd.ntmps11
    go_wp2_with (go_at_call 25; refine (l02m_any _ _).mono ?_; rintro e w' ⟨rfl, rfl⟩)
    go_ret3
    exact ⟨ret_iii (by simp [yoY, h1]) (by simp [yoM, h1]) (by simp [yoE, h1]), rfl⟩
  · go_enter Tryd.func11, Tryd.ntmps11
    go_wp2_with (go_at_call 25; refine (l02m_any _ _).mono ?_; rintro e w' ⟨rfl, rfl⟩)
    go_ret3
    exact ⟨ret_iii (by simp [yoY, h1]) (by simp [yoM, h1]) (by simp [yoE, h1]), rfl⟩

/-- two months in their order, or not -/
theorem fy_split (a b : Int) : (fyE a b = 0 ∧ (fyE a b == 0) = true ∧ (fyE a b != 0) = false ∧ 0 ≤ a ∧ a ≤ b ∧ b ≤ 35999) ∨ (fyE a b ≠ 0 ∧ (fyE a b == 0) = false ∧ (fyE a b != 0) = true) := by
  by_cases h : fyE a b = 0
  · refine .inl ⟨h, by simp [h], by simp [h], ?_⟩
    unfold fyE at h
    split at h
    · next h1 =>
      split at h
      · next h2 =>
        have := (mthB_iff _).1 h1
        have := (mthB_iff _).1 h2
        split at h
        · cases h
        · omega
      · cases h
    · cases h
  · exact .inr ⟨h, by simp [h], by simp [h]⟩

end Go.Proofs.YtalfbhkgjfkneaaDoor

/- Chapter 2's functions on numbers: what each call of the program and of its model returns, one Lean function for both. -/
import Derived.Test.YtalfbhkgjfkneaaNums
namespace Go.Proofs.Ytalfbhkgjfkneaa
open Go.ChangeShapes Go.WideShapes Go.ChangeAt Go.RowKit
set_option linter.unusedVariables false

/-- whether a number is a month -/
def mthB (n : Int) : Bool := inB n 0 35999

theorem mthB_iff (n : Int) : mthB n = true ↔ 0 ≤ n ∧ n ≤ 35999 := inB_iff _ _ _

def moB (y m : Int) : Bool := inB y 0 2999 && inB m 1 12

def moV (y m : Int) : Int := if moB y m then 12 * y + m - 1 else 0

def moE (y m : Int) : Int := if moB y m then 0 else 2

def yoY (n : Int) : Int := if mthB n then n / 12 else 0

def yoM (n : Int) : Int := if mthB n then n % 12 + 1 else 0

def yoE (n : Int) : Int := if mthB n then 0 else 2

def fyE (a b : Int) : Int := if mthB a then (if mthB b then (if b < a then 5 else 0) else 2) else 2

def fyY (a b : Int) : Int := if fyE a b = 0 then (b - a) / 12 else 0

def fyM (a b : Int) : Int := if fyE a b = 0 then (b - a) % 12 else 0

/-- the next birthday, in its range or not -/
def nbX (a b : Int) : Int := a + 12 * ((b - a) / 12 + 1)

def nbV (a b : Int) : Int := if fyE a b = 0 then (if mthB (nbX a b) then nbX a b else 0) else 0

def nbE (a b : Int) : Int := if fyE a b = 0 then (if mthB (nbX a b) then 0 else 3) else fyE a b

def amB (n k : Int) : Bool := mthB n && inB k (-36000) 36000

def amV (n k : Int) : Int := if amB n k then (if mthB (n + k) then n + k else 0) else 0

def amE (n k : Int) : Int := if amB n k then (if mthB (n + k) then 0 else 3) else 2

theorem ret_iii {a b c d x y : Int} (h : a = b) (g : c = d) (k : x = y) : Ending.returned (.tuple #[.int .i64 a, .int .i64 c, .int .i64 x]) = .returned (.tuple #[.int .i64 b, .int .i64 d, .int .i64 y]) := by rw [h, g, k]

theorem mvalid_any (n : Int) (w : World) : Calls Try.prog 50 #[.int .i64 n] w fun e w' => e = .returned (.bool (mthB n)) ∧ w = w' := by
  go_enter Try.func50, Try.ntmps50
  go_wp2_with (go_at_call 42; refine (within_any _ _ _ _).mono ?_; rintro e w' ⟨rfl, rfl⟩)
  go_ret
  exact ⟨rfl, rfl⟩

theorem l02m_any (n : Int) (w : World) : Calls Try.prog 51 #[.int .i64 n] w fun e w' => e = .returned (.bool (mthB n)) ∧ w = w' := by
  go_enter Try.func51, Try.ntmps51
  go_wp2_with (go_at_call 44; refine (in_any _ _ _ _).mono ?_; rintro e w' ⟨rfl, rfl⟩)
  go_ret
  exact ⟨rfl, rfl⟩

theorem since_any (m s : Int) (w : World) (h0 : 0 ≤ s) (h1 : s ≤ m) (h2 : m ≤ 36000) : Calls Try.prog 52 #[.int .i64 m, .int .i64 s] w fun e w' => e = .returned (.tuple #[.int .i64 ((m - s) / 12), .int .i64 ((m - s) % 12)]) ∧ w = w' := by
  have h3 : 0 ≤ m - s := by omega
  go_enter Try.func52, Try.ntmps52
  go_wp2
  go_ret2
  exact ⟨rfl, rfl⟩

theorem inYear_any (m : Int) (w : World) (h1 : 0 ≤ m) (h2 : m ≤ 36000) : Calls Try.prog 54 #[.int .i64 m] w fun e w' => e = .returned (.tuple #[.int .i64 (m / 12), .int .i64 (m % 12 + 1)]) ∧ w = w' := by
  go_enter Try.func54, Try.ntmps54
  go_wp2_with (go_at_call 52; refine (since_any _ _ _ (by omega) (by omega) (by omega)).mono ?_; rintro e w' ⟨rfl, rfl⟩)
  go_ret2
  exact ⟨ret_ii (by simp) (by simp), rfl⟩

theorem mo_impl (y m : Int) (w : World) : Calls Try.prog 34 #[.int .i64 y, .int .i64 m] w fun e w' => e = .returned (.tuple #[.int .i64 (moV y m), .int .i64 (moE y m)]) ∧ w = w' := by
  by_cases h1 : inB y 0 2999 = true
  · by_cases h2 : inB m 1 12 = true
    · obtain ⟨y1, y2⟩ := (inB_iff _ _ _).1 h1
      obtain ⟨m1, m2⟩ := (inB_iff _ _ _).1 h2
      go_enter Try.func34, Try.ntmps34
      go_wp2_with (go_at_call 42; refine (within_any _ _ _ _).mono ?_; rintro e w' ⟨rfl, rfl⟩)
      go_ret2
      exact ⟨ret_ii (by simp [moV, moB, h1, h2]) (by simp [moE, moB, h1, h2]), rfl⟩
    · go_enter Try.func34, Try.ntmps34
      go_wp2_with (go_at_call 42; refine (within_any _ _ _ _).mono ?_; rintro e w' ⟨rfl, rfl⟩)
      go_ret2
      exact ⟨ret_ii (by simp [moV, moB, h1, h2]) (by simp [moE, moB, h1, h2]), rfl⟩
  · go_enter Try.func34, Try.ntmps34
    go_wp2_with (go_at_call 42; refine (within_any _ _ _ _).mono ?_; rintro e w' ⟨rfl, rfl⟩)
    go_ret2
    exact ⟨ret_ii (by simp [moV, moB, h1]) (by simp [moE, moB, h1]), rfl⟩

theorem mo_spec (y m : Int) (w : World) : Calls Try.prog 33 #[.int .i64 y, .int .i64 m] w fun e w' => e = .returned (.tuple #[.int .i64 (moV y m), .int .i64 (moE y m)]) ∧ w = w' := by
  by_cases h1 : inB y 0 2999 = true
  · by_cases h2 : inB m 1 12 = true
    · obtain ⟨y1, y2⟩ := (inB_iff _ _ _).1 h1
      obtain ⟨m1, m2⟩ := (inB_iff _ _ _).1 h2
      go_enter Try.func33, Try.ntmps33
      go_wp2_with (go_at_call 44; refine (in_any _ _ _ _).mono ?_; rintro e w' ⟨rfl, rfl⟩)
      go_ret2
      exact ⟨ret_ii (by simp [moV, moB, h1, h2]) (by simp [moE, moB, h1, h2]), rfl⟩
    · go_enter Try.func33, Try.ntmps33
      go_wp2_with (go_at_call 44; refine (in_any _ _ _ _).mono ?_; rintro e w' ⟨rfl, rfl⟩)
      go_ret2
      exact ⟨ret_ii (by simp [moV, moB, h1, h2]) (by simp [moE, moB, h1, h2]), rfl⟩
  · go_enter Try.func33, Try.ntmps33
    go_wp2_with (go_at_call 44; refine (in_any _ _ _ _).mono ?_; rintro e w' ⟨rfl, rfl⟩)
    go_ret2
    exact ⟨ret_ii (by simp [moV, moB, h1]) (by simp [moE, moB, h1]), rfl⟩

theorem yo_impl (n : Int) (w : World) : Calls Try.prog 36 #[.int .i64 n] w fun e w' => e = .returned (.tuple #[.int .i64 (yoY n), .int .i64 (yoM n), .int .i64 (yoE n)]) ∧ w = w' := by
  by_cases h1 : mthB n = true
  · obtain ⟨n1, n2⟩ := (mthB_iff _).1 h1
    go_enter Try.func36, Try.ntmps36
    go_wp2_with (first | (go_at_call 50; refine (mvalid_any _ _).mono ?_; rintro e w' ⟨rfl, rfl⟩) | (go_at_call 54; refine (inYear_any _ _ (by omega) (by omega)).mono ?_; rintro e w' ⟨rfl, rfl⟩))
    go_ret3
    exact ⟨ret_iii (by simp [yoY, h1]) (by simp [yoM, h1]) (by simp [yoE, h1]), rfl⟩
  · go_enter Try.func36, Try.ntmps36
    go_wp2_with (go_at_call 50; refine (mvalid_any _ _).mono ?_; rintro e w' ⟨rfl, rfl⟩)
    go_ret3
    exact ⟨ret_iii (by simp [yoY, h1]) (by simp [yoM, h1]) (by simp [yoE, h1]), rfl⟩

theorem yo_spec (n : Int) (w : World) : Calls Try.prog 35 #[.int .i64 n] w fun e w' => e = .returned (.tuple #[.int .i64 (yoY n), .int .i64 (yoM n), .int .i64 (yoE n)]) ∧ w = w' := by
  by_cases h1 : mthB n = true
  · obtain ⟨n1, n2⟩ := (mthB_iff _).1 h1
    go_enter Try.func35, Try.ntmps35
    go_wp2_with (go_at_call 51; refine (l02m_any _ _).mono ?_; rintro e w' ⟨rfl, rfl⟩)
    go_ret3
    exact ⟨ret_iii (by simp [yoY, h1]) (by simp [yoM, h1]) (by simp [yoE, h1]), rfl⟩
  · go_enter Try.func35, Try.ntmps35
    go_wp2_with (go_at_call 51; refine (l02m_any _ _).mono ?_; rintro e w' ⟨rfl, rfl⟩)
    go_ret3
    exact ⟨ret_iii (by simp [yoY, h1]) (by simp [yoM, h1]) (by simp [yoE, h1]), rfl⟩

theorem fy_impl (a b : Int) (w : World) : Calls Try.prog 28 #[.int .i64 a, .int .i64 b] w fun e w' => e = .returned (.tuple #[.int .i64 (fyY a b), .int .i64 (fyM a b), .int .i64 (fyE a b)]) ∧ w = w' := by
  by_cases h1 : mthB a = true
  · by_cases h2 : mthB b = true
    · obtain ⟨a1, a2⟩ := (mthB_iff _).1 h1
      obtain ⟨b1, b2⟩ := (mthB_iff _).1 h2
      by_cases h3 : b < a
      · go_enter Try.func28, Try.ntmps28
        go_wp2_with (go_at_call 50; refine (mvalid_any _ _).mono ?_; rintro e w' ⟨rfl, rfl⟩)
        go_ret3
        exact ⟨ret_iii (by simp [fyY, fyE, h1, h2, h3]) (by simp [fyM, fyE, h1, h2, h3]) (by simp [fyE, h1, h2, h3]), rfl⟩
      · go_enter Try.func28, Try.ntmps28
        go_wp2_with (first | (go_at_call 50; refine (mvalid_any _ _).mono ?_; rintro e w' ⟨rfl, rfl⟩) | (go_at_call 52; refine (since_any _ _ _ (by omega) (by omega) (by omega)).mono ?_; rintro e w' ⟨rfl, rfl⟩))
        go_ret3
        exact ⟨ret_iii (by simp [fyY, fyE, h1, h2, h3]) (by simp [fyM, fyE, h1, h2, h3]) (by simp [fyE, h1, h2, h3]), rfl⟩
    · go_enter Try.func28, Try.ntmps28
      go_wp2_with (go_at_call 50; refine (mvalid_any _ _).mono ?_; rintro e w' ⟨rfl, rfl⟩)
      go_ret3
      exact ⟨ret_iii (by simp [fyY, fyE, h1, h2]) (by simp [fyM, fyE, h1, h2]) (by simp [fyE, h1, h2]), rfl⟩
  · go_enter Try.func28, Try.ntmps28
    go_wp2_with (go_at_call 50; refine (mvalid_any _ _).mono ?_; rintro e w' ⟨rfl, rfl⟩)
    go_ret3
    exact ⟨ret_iii (by simp [fyY, fyE, h1]) (by simp [fyM, fyE, h1]) (by simp [fyE, h1]), rfl⟩

theorem code2_any (a b : Int) (w : World) : Calls Try.prog 49 #[.int .i64 a, .int .i64 b] w fun e w' => e = .returned (.int .i64 (fyE a b)) ∧ w = w' := by
  by_cases h1 : mthB a = true
  · by_cases h2 : mthB b = true
    · by_cases h3 : b < a
      · go_enter Try.func49, Try.ntmps49
        go_wp2_with (go_at_call 51; refine (l02m_any _ _).mono ?_; rintro e w' ⟨rfl, rfl⟩)
        go_ret
        exact ⟨ret_int (by simp [fyE, h1, h2, h3]), rfl⟩
      · go_enter Try.func49, Try.ntmps49
        go_wp2_with (go_at_call 51; refine (l02m_any _ _).mono ?_; rintro e w' ⟨rfl, rfl⟩)
        go_ret
        exact ⟨ret_int (by simp [fyE, h1, h2, h3]), rfl⟩
    · go_enter Try.func49, Try.ntmps49
      go_wp2_with (go_at_call 51; refine (l02m_any _ _).mono ?_; rintro e w' ⟨rfl, rfl⟩)
      go_ret
      exact ⟨ret_int (by simp [fyE, h1, h2]), rfl⟩
  · go_enter Try.func49, Try.ntmps49
    go_wp2_with (go_at_call 51; refine (l02m_any _ _).mono ?_; rintro e w' ⟨rfl, rfl⟩)
    go_ret
    exact ⟨ret_int (by simp [fyE, h1]), rfl⟩

/-- two months in their order, or not -/
theorem fy_split (a b : Int) : (fyE a b = 0 ∧ (fyE a b == 0) = true ∧ (fyE a b != 0) = false ∧ 0 ≤ a ∧ a ≤ b ∧ b ≤ 35999) ∨ (fyE a b ≠ 0 ∧ (fyE a b == 0) = false ∧ (fyE a b != 0) = true) := by
  by_cases h : fyE a b = 0
  · refine .inl ⟨h, by simp [h], by simp [h], ?_⟩
    unfold fyE at h
    split at h
    · next h1 =>
      split at h
      · next h2 =>
        have := (mthB_iff _).1 h1
        have := (mthB_iff _).1 h2
        split at h
        · cases h
        · omega
      · cases h
    · cases h
  · exact .inr ⟨h, by simp [h], by simp [h]⟩

theorem fy_spec (a b : Int) (w : World) : Calls Try.prog 29 #[.int .i64 a, .int .i64 b] w fun e w' => e = .returned (.tuple #[.int .i64 (fyY a b), .int .i64 (fyM a b), .int .i64 (fyE a b)]) ∧ w = w' := by
  rcases fy_split a b with ⟨h, hb, hn, a1, a2, a3⟩ | ⟨h, hb, hn⟩
  · have H := Lib.hid h
    clear h
    have h3 : 0 ≤ b - a := by omega
    go_enter Try.func29, Try.ntmps29
    go_wp2_with (go_at_call 49; refine (code2_any _ _ _).mono ?_; rintro e w' ⟨rfl, rfl⟩)
    go_ret3
    exact ⟨ret_iii (by simp [fyY, H.out]) (by simp [fyM, H.out]) (by simp [H.out]), rfl⟩
  · have H := Lib.hid h
    clear h
    go_enter Try.func29, Try.ntmps29
    go_wp2_with (go_at_call 49; refine (code2_any _ _ _).mono ?_; rintro e w' ⟨rfl, rfl⟩)
    go_ret3
    exact ⟨ret_iii (by simp [fyY, H.out]) (by simp [fyM, H.out]) rfl, rfl⟩

theorem ag_impl (a b : Int) (w : World) : Calls Try.prog 24 #[.int .i64 a, .int .i64 b] w fun e w' => e = .returned (.tuple #[.int .i64 (fyY a b), .int .i64 (fyE a b)]) ∧ w = w' := by
  go_enter Try.func24, Try.ntmps24
  go_wp2_with (go_at_call 28; refine (fy_impl _ _ _).mono ?_; rintro e w' ⟨rfl, rfl⟩)
  go_ret2
  exact ⟨rfl, rfl⟩

theorem ag_spec (a b : Int) (w : World) : Calls Try.prog 25 #[.int .i64 a, .int .i64 b] w fun e w' => e = .returned (.tuple #[.int .i64 (fyY a b), .int .i64 (fyE a b)]) ∧ w = w' := by
  rcases fy_split a b with ⟨h, hb, hn, a1, a2, a3⟩ | ⟨h, hb, hn⟩
  · have H := Lib.hid h
    clear h
    have h3 : 0 ≤ b - a := by omega
    go_enter Try.func25, Try.ntmps25
    go_wp2_with (go_at_call 49; refine (code2_any _ _ _).mono ?_; rintro e w' ⟨rfl, rfl⟩)
    go_ret2
    exact ⟨ret_ii (by simp [fyY, H.out]) (by simp [H.out]), rfl⟩
  · have H := Lib.hid h
    clear h
    go_enter Try.func25, Try.ntmps25
    go_wp2_with (go_at_call 49; refine (code2_any _ _ _).mono ?_; rintro e w' ⟨rfl, rfl⟩)
    go_ret2
    exact ⟨ret_ii (by simp [fyY, H.out]) rfl, rfl⟩

theorem nb_impl (a b : Int) (w : World) : Calls Try.prog 26 #[.int .i64 a, .int .i64 b] w fun e w' => e = .returned (.tuple #[.int .i64 (nbV a b), .int .i64 (nbE a b)]) ∧ w = w' := by
  rcases fy_split a b with ⟨h, hb, hn, a1, a2, a3⟩ | ⟨h, hb, hn⟩
  · have H := Lib.hid h
    have e : fyY a b = (b - a) / 12 := by simp [fyY, h]
    have q1 : 0 ≤ fyY a b := by omega
    have q2 : fyY a b ≤ 36000 := by omega
    have E : Hid (a + 12 * (fyY a b + 1) = nbX a b) := Lib.hid (by rw [e]; rfl)
    clear h e
    obtain ⟨y, hy⟩ : ∃ y, fyY a b = y := ⟨_, rfl⟩
    have AG : Hid (Calls Try.prog 24 #[.int .i64 a, .int .i64 b] w fun e w' => e = .returned (.tuple #[.int .i64 y, .int .i64 0]) ∧ w = w') := Lib.hid (by have := ag_impl a b w; rw [hy, H.out] at this; exact this)
    rw [hy] at q1 q2 E
    clear hy hb hn
    by_cases hm : mthB (a + 12 * (y + 1)) = true
    · go_enter Try.func26, Try.ntmps26
      go_wp2_with (first | (go_at_call 24; refine (AG.out).mono ?_; rintro e w' ⟨rfl, rfl⟩) | (go_at_call 50; refine (mvalid_any _ _).mono ?_; rintro e w' ⟨rfl, rfl⟩))
      go_ret2
      rw [E.out] at hm
      exact ⟨ret_ii (by simp [nbV, H.out, hm, E.out]) (by simp [nbE, H.out, hm]), rfl⟩
    · go_enter Try.func26, Try.ntmps26
      go_wp2_with (first | (go_at_call 24; refine (AG.out).mono ?_; rintro e w' ⟨rfl, rfl⟩) | (go_at_call 50; refine (mvalid_any _ _).mono ?_; rintro e w' ⟨rfl, rfl⟩))
      go_ret2
      rw [E.out] at hm
      exact ⟨ret_ii (by simp [nbV, H.out, hm]) (by simp [nbE, H.out, hm]), rfl⟩
  · have H := Lib.hid h
    clear h
    go_enter Try.func26, Try.ntmps26
    go_wp2_with (go_at_call 24; refine (ag_impl _ _ _).mono ?_; rintro e w' ⟨rfl, rfl⟩)
    go_ret2
    exact ⟨ret_ii (by simp [nbV, H.out]) (by simp [nbE, H.out]), rfl⟩

theorem nb_spec (a b : Int) (w : World) : Calls Try.prog 27 #[.int .i64 a, .int .i64 b] w fun e w' => e = .returned (.tuple #[.int .i64 (nbV a b), .int .i64 (nbE a b)]) ∧ w = w' := by
  rcases fy_split a b with ⟨h, hb, hn, a1, a2, a3⟩ | ⟨h, hb, hn⟩
  · have H := Lib.hid h
    have h3 : 0 ≤ b - a := by omega
    clear h
    by_cases hm : mthB (a + 12 * ((b - a) / 12 + 1)) = true
    · go_enter Try.func27, Try.ntmps27
      go_wp2_with (first | (go_at_call 49; refine (code2_any _ _ _).mono ?_; rintro e w' ⟨rfl, rfl⟩) | (go_at_call 51; refine (l02m_any _ _).mono ?_; rintro e w' ⟨rfl, rfl⟩))
      go_ret2
      exact ⟨ret_ii (by simp [nbV, nbX, H.out, hm]) (by simp [nbE, nbX, H.out, hm]), rfl⟩
    · go_enter Try.func27, Try.ntmps27
      go_wp2_with (first | (go_at_call 49; refine (code2_any _ _ _).mono ?_; rintro e w' ⟨rfl, rfl⟩) | (go_at_call 51; refine (l02m_any _ _).mono ?_; rintro e w' ⟨rfl, rfl⟩))
      go_ret2
      exact ⟨ret_ii (by simp [nbV, nbX, H.out, hm]) (by simp [nbE, nbX, H.out, hm]), rfl⟩
  · have H := Lib.hid h
    clear h
    go_enter Try.func27, Try.ntmps27
    go_wp2_with (go_at_call 49; refine (code2_any _ _ _).mono ?_; rintro e w' ⟨rfl, rfl⟩)
    go_ret2
    exact ⟨ret_ii (by simp [nbV, H.out]) (by simp [nbE, H.out]), rfl⟩

theorem am_impl (n k : Int) (w : World) : Calls Try.prog 31 #[.int .i64 n, .int .i64 k] w fun e w' => e = .returned (.tuple #[.int .i64 (amV n k), .int .i64 (amE n k)]) ∧ w = w' := by
  by_cases h1 : mthB n = true
  · by_cases h2 : inB k (-36000) 36000 = true
    · obtain ⟨n1, n2⟩ := (mthB_iff _).1 h1
      obtain ⟨k1, k2⟩ := (inB_iff _ _ _).1 h2
      by_cases h3 : mthB (n + k) = true
      all_goals
        go_enter Try.func31, Try.ntmps31
        go_wp2_with (first | (go_at_call 50; refine (mvalid_any _ _).mono ?_; rintro e w' ⟨rfl, rfl⟩) | (go_at_call 42; refine (within_any _ _ _ _).mono ?_; rintro e w' ⟨rfl, rfl⟩))
        go_ret2
        exact ⟨ret_ii (by simp [amV, amB, h1, h2, h3]) (by simp [amE, amB, h1, h2, h3]), rfl⟩
    · go_enter Try.func31, Try.ntmps31
      go_wp2_with (first | (go_at_call 50; refine (mvalid_any _ _).mono ?_; rintro e w' ⟨rfl, rfl⟩) | (go_at_call 42; refine (within_any _ _ _ _).mono ?_; rintro e w' ⟨rfl, rfl⟩))
      go_ret2
      exact ⟨ret_ii (by simp [amV, amB, h1, h2]) (by simp [amE, amB, h1, h2]), rfl⟩
  · go_enter Try.func31, Try.ntmps31
    go_wp2_with (first | (go_at_call 50; refine (mvalid_any _ _).mono ?_; rintro e w' ⟨rfl, rfl⟩) | (go_at_call 42; refine (within_any _ _ _ _).mono ?_; rintro e w' ⟨rfl, rfl⟩))
    go_ret2
    exact ⟨ret_ii (by simp [amV, amB, h1]) (by simp [amE, amB, h1]), rfl⟩

theorem am_spec (n k : Int) (w : World) : Calls Try.prog 32 #[.int .i64 n, .int .i64 k] w fun e w' => e = .returned (.tuple #[.int .i64 (amV n k), .int .i64 (amE n k)]) ∧ w = w' := by
  by_cases h1 : mthB n = true
  · by_cases h2 : inB k (-36000) 36000 = true
    · obtain ⟨n1, n2⟩ := (mthB_iff _).1 h1
      obtain ⟨k1, k2⟩ := (inB_iff _ _ _).1 h2
      by_cases h3 : mthB (n + k) = true
      all_goals
        go_enter Try.func32, Try.ntmps32
        go_wp2_with (first | (go_at_call 51; refine (l02m_any _ _).mono ?_; rintro e w' ⟨rfl, rfl⟩) | (go_at_call 44; refine (in_any _ _ _ _).mono ?_; rintro e w' ⟨rfl, rfl⟩))
        go_ret2
        exact ⟨ret_ii (by simp [amV, amB, h1, h2, h3]) (by simp [amE, amB, h1, h2, h3]), rfl⟩
    · go_enter Try.func32, Try.ntmps32
      go_wp2_with (first | (go_at_call 51; refine (l02m_any _ _).mono ?_; rintro e w' ⟨rfl, rfl⟩) | (go_at_call 44; refine (in_any _ _ _ _).mono ?_; rintro e w' ⟨rfl, rfl⟩))
      go_ret2
      exact ⟨ret_ii (by simp [amV, amB, h1, h2]) (by simp [amE, amB, h1, h2]), rfl⟩
  · go_enter Try.func32, Try.ntmps32
    go_wp2_with (first | (go_at_call 51; refine (l02m_any _ _).mono ?_; rintro e w' ⟨rfl, rfl⟩) | (go_at_call 44; refine (in_any _ _ _ _).mono ?_; rintro e w' ⟨rfl, rfl⟩))
    go_ret2
    exact ⟨ret_ii (by simp [amV, amB, h1]) (by simp [amE, amB, h1]), rfl⟩

end Go.Proofs.Ytalfbhkgjfkneaa

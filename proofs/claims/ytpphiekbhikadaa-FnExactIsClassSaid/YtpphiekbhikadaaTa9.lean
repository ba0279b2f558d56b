/- Merged: Two, Jmj, Make, MakeI, TabL, TabN. -/
import Derived.Test.YtpphiekbhikadaaTa1
import Derived.Test.YtpphiekbhikadaaTa4
import Derived.Test.YtpphiekbhikadaaTa7
import Derived.Deep.RegionHeld3

/- Two lives, as numbers: the joint table, the codes, chances in lowest terms (no program in it). | Fractions of the program; boxes of two tables; the first error of two codes: what the calls return. | Two lives: the model's code, its joint table, its chances. (Written by wip/gen/jms.py.) -/
namespace Go.Proofs.Ytpphiekbhikadaa
open Go.ChangeShapes Go.WideShapes Go.ChangeAt Go.RowKit
set_option linter.unusedVariables false

/-- the first number of k .. k + n - 1 at which v is 0; k + n if there is none -/
def fz (v : Nat → Int) : Nat → Nat → Nat
  | 0, k => k
  | n + 1, k => if v k = 0 then k else fz v n (k + 1)

theorem fz_le (v : Nat → Int) (n k : Nat) : k ≤ fz v n k ∧ fz v n k ≤ k + n := by
  induction n generalizing k with
  | zero => simp [fz]
  | succ n ih =>
    rw [fz]
    split
    · omega
    · have := ih (k + 1); omega

theorem fz_hit (v : Nat → Int) (n k : Nat) (h : fz v n k < k + n) : v (fz v n k) = 0 := by
  induction n generalizing k with
  | zero => simp [fz] at h
  | succ n ih =>
    rw [fz] at h ⊢
    split
    · assumption
    · rename_i hp
      rw [if_neg hp] at h
      exact ih (k + 1) (by omega)

theorem fz_min (v : Nat → Int) (n k j : Nat) (h1 : k ≤ j) (h2 : j < fz v n k) : v j ≠ 0 := by
  induction n generalizing k with
  | zero => simp [fz] at h2; omega
  | succ n ih =>
    rw [fz] at h2
    split at h2
    · omega
    · rename_i hp
      by_cases hk : k = j
      · subst hk; exact hp
      · exact ih (k + 1) (by omega) h2

theorem fz_end (v : Nat → Int) (n k j : Nat) (h1 : k ≤ j) (h2 : j < k + n) (h3 : v j = 0) : fz v n k ≤ j := by
  by_cases h : j < fz v n k
  · exact absurd h3 (fz_min v n k j h1 h)
  · omega

/-- two lives that are right -/
structure Duo (f : Int) (xs : List Int) (x g : Int) (ys : List Int) (y : Int) : Prop where
  t : LTab f xs
  u : LTab g ys
  x0 : f ≤ x
  x1 : x ≤ 100
  y0 : g ≤ y
  y1 : y ≤ 150
  tx : 1 ≤ lvs f xs x
  uy : 1 ≤ lvs g ys y

/-- the numbers of the joint table -/
def jv (f : Int) (xs : List Int) (x g : Int) (ys : List Int) (y : Int) (k : Nat) : Int := lvs f xs (x + k) * lvs g ys (y + k) / lvs g ys y

/-- the index of the first one that is 0 -/
def jn (f : Int) (xs : List Int) (x g : Int) (ys : List Int) (y : Int) : Nat := fz (jv f xs x g ys y) 121 0

/-- the joint table's list -/
def jtL (f : Int) (xs : List Int) (x g : Int) (ys : List Int) (y : Int) : List Int := (List.range (jn f xs x g ys y + 1)).map (jv f xs x g ys y)

section
variable {f : Int} {xs : List Int} {x g : Int} {ys : List Int} {y : Int}

theorem Duo.jv_bd (h : Duo f xs x g ys y) (k : Nat) : 0 ≤ jv f xs x g ys y k ∧ jv f xs x g ys y k ≤ lvs f xs (x + k) := by
  have h1 := h.t.lvs_bd (x + k)
  have h2 := h.u.lvs_bd (y + k)
  have h3 := h.u.lvs_mono y (y + k) (by omega)
  have h4 := h.uy
  unfold jv
  constructor
  · exact Int.ediv_nonneg (Int.mul_nonneg h1.1 h2.1) (by omega)
  · refine Int.ediv_le_of_le_mul (by omega) ?_
    exact Int.mul_le_mul_of_nonneg_left h3 h1.1

theorem Duo.jv0 (h : Duo f xs x g ys y) : jv f xs x g ys y 0 = lvs f xs x := by
  have h4 := h.uy
  unfold jv
  rw [show x + ((0 : Nat) : Int) = x by omega, show y + ((0 : Nat) : Int) = y by omega]
  exact Int.mul_ediv_cancel _ (by omega)

theorem Duo.jv_step (h : Duo f xs x g ys y) (k : Nat) : jv f xs x g ys y (k + 1) ≤ jv f xs x g ys y k := by
  have h1 := h.t.lvs_bd (x + (k + 1 : Nat))
  have h2 := h.u.lvs_bd (y + k)
  have h3 := h.t.lvs_mono (x + k) (x + (k + 1 : Nat)) (by omega)
  have h5 := h.u.lvs_mono (y + k) (y + (k + 1 : Nat)) (by omega)
  have h4 := h.uy
  unfold jv
  refine Int.ediv_le_ediv (by omega) ?_
  exact Int.le_trans (Int.mul_le_mul_of_nonneg_left h5 h1.1) (Int.mul_le_mul_of_nonneg_right h3 h2.1)

theorem Duo.jv_t (h : Duo f xs x g ys y) (k : Nat) (hk : f + xs.length ≤ x + k + 1) : jv f xs x g ys y k = 0 := by
  unfold jv
  rw [h.t.lvs_zero (x + k) hk, Int.zero_mul, Int.zero_ediv]

theorem Duo.jv_u (h : Duo f xs x g ys y) (k : Nat) (hk : g + ys.length ≤ y + k + 1) : jv f xs x g ys y k = 0 := by
  unfold jv
  rw [h.u.lvs_zero (y + k) hk, Int.mul_zero, Int.zero_ediv]

theorem Duo.x_lt (h : Duo f xs x g ys y) : x + 1 < f + xs.length := by
  by_cases hh : x + 1 < f + xs.length
  · exact hh
  · have := h.t.lvs_zero x (by omega); have := h.tx; omega

theorem Duo.y_lt (h : Duo f xs x g ys y) : y + 1 < g + ys.length := by
  by_cases hh : y + 1 < g + ys.length
  · exact hh
  · have := h.u.lvs_zero y (by omega); have := h.uy; omega

theorem Duo.jn_t (h : Duo f xs x g ys y) : x + jn f xs x g ys y + 1 ≤ f + xs.length := by
  have h1 := h.x_lt
  have h2 := h.t.2.1
  have := fz_end (jv f xs x g ys y) 121 0 (f + xs.length - x - 1).toNat (by omega) (by have := h.x0; omega) (h.jv_t _ (by omega))
  unfold jn; omega

theorem Duo.jn_u (h : Duo f xs x g ys y) : y + jn f xs x g ys y + 1 ≤ g + ys.length := by
  have h1 := h.y_lt
  have h2 := h.u.2.1
  have := fz_end (jv f xs x g ys y) 121 0 (g + ys.length - y - 1).toNat (by omega) (by have := h.y0; omega) (h.jv_u _ (by omega))
  unfold jn; omega

theorem Duo.jn_le (h : Duo f xs x g ys y) : 1 ≤ jn f xs x g ys y ∧ jn f xs x g ys y ≤ 119 := by
  have h1 := h.jn_t
  have h2 := h.t.2.1
  have h3 := h.x0
  refine ⟨?_, by omega⟩
  by_cases h0 : jn f xs x g ys y = 0
  · have := fz_hit (jv f xs x g ys y) 121 0 (by unfold jn at h0; omega)
    unfold jn at h0
    rw [h0, h.jv0] at this
    have := h.tx
    omega
  · omega

theorem Duo.jn_hit (h : Duo f xs x g ys y) : jv f xs x g ys y (jn f xs x g ys y) = 0 := by
  have := h.jn_le
  exact fz_hit (jv f xs x g ys y) 121 0 (by unfold jn at this; omega)

theorem Duo.jn_pos (h : Duo f xs x g ys y) (k : Nat) (hk : k < jn f xs x g ys y) : 1 ≤ jv f xs x g ys y k := by
  have h1 := fz_min (jv f xs x g ys y) 121 0 k (by omega) hk
  have h2 := (h.jv_bd k).1
  omega

theorem Duo.jn_far (h : Duo f xs x g ys y) (k : Nat) (hk : jn f xs x g ys y ≤ k) : jv f xs x g ys y k = 0 := by
  induction k with
  | zero =>
    have := h.jn_hit
    rw [show jn f xs x g ys y = 0 by omega] at this
    exact this
  | succ k ih =>
    by_cases he : jn f xs x g ys y = k + 1
    · have := h.jn_hit; rw [he] at this; exact this
    · have h1 := ih (by omega)
      have h2 := h.jv_step k
      have h3 := (h.jv_bd (k + 1)).1
      omega

theorem jtL_len : (jtL f xs x g ys y).length = jn f xs x g ys y + 1 := by simp [jtL]

theorem jtL_get (k : Nat) (hk : k ≤ jn f xs x g ys y) : (jtL f xs x g ys y).getD k 0 = jv f xs x g ys y k := by
  rw [List.getD_eq_getElem?_getD, List.getElem?_eq_getElem (by rw [jtL_len]; omega)]
  simp [jtL]

theorem Duo.get (h : Duo f xs x g ys y) (k : Nat) : (jtL f xs x g ys y).getD k 0 = jv f xs x g ys y k := by
  by_cases hk : k ≤ jn f xs x g ys y
  · exact jtL_get k hk
  · rw [h.jn_far k (by omega)]; exact getD_far _ _ (by rw [jtL_len]; omega)

theorem Duo.ltab (h : Duo f xs x g ys y) : LTab x (jtL f xs x g ys y) := by
  have h1 := h.jn_le
  have h2 := h.jn_t
  have h3 := h.t.2.2.1
  have h4 := h.t.1
  have h5 := h.x0
  refine ⟨⟨by omega, h.x1⟩, by rw [jtL_len]; omega, by rw [jtL_len]; omega, ?_, ?_, ?_⟩
  · rw [h.get, h.jv0]; exact ⟨h.tx, (h.t.lvs_bd x).2⟩
  · rw [h.get, jtL_len]; exact h.jn_far _ (by omega)
  · intro i hi h1
    rw [h.get, h.get, jtL_len]
    rw [jtL_len] at hi
    refine ⟨?_, fun hl => h.jn_pos i (by omega)⟩
    have := h.jv_step (i - 1)
    rw [show i - 1 + 1 = i by omega] at this
    exact this

theorem Duo.jlvs (h : Duo f xs x g ys y) (k : Nat) : lvs x (jtL f xs x g ys y) (x + k) = jv f xs x g ys y k := by
  unfold lvs
  rw [show (x + (k : Int) - x).toNat = k by omega]
  exact h.get k

theorem Duo.jx (h : Duo f xs x g ys y) : lvs x (jtL f xs x g ys y) x = lvs f xs x := by
  have := h.jlvs 0
  rw [show x + ((0 : Nat) : Int) = x by omega, h.jv0] at this
  exact this

/-! ### codes -/

/-- the code of two codes -/
def feE (x c d : Int) : Int := if c = 1 ∨ d = 1 then 1 else if c = 2 ∨ d = 2 ∨ 100 < x then 2 else if c = 5 ∨ d = 5 then 5 else 0

/-- the code of two lives -/
def twE (f : Int) (xs : List Int) (x g : Int) (ys : List Int) (y : Int) (b : Bool) : Int :=
  if ¬ (ltB f xs = true ∧ ltB g ys = true) then 1 else if ¬ (inB x f 100 = true ∧ inB y g 150 = true ∧ b = true) then 2 else if lvs f xs x = 0 ∨ lvs g ys y = 0 then 5 else 0

theorem tw_iff {b : Bool} : twE f xs x g ys y b = 0 ↔ Duo f xs x g ys y ∧ b = true := by
  unfold twE
  constructor
  · intro h
    split at h
    · omega
    rename_i h1
    split at h
    · omega
    rename_i h2
    split at h
    · omega
    rename_i h3
    have h1 := Decidable.not_not.1 h1
    have h2 := Decidable.not_not.1 h2
    rw [ltB_iff, ltB_iff] at h1
    rw [inB_iff, inB_iff] at h2
    have h4 := h1.1.lvs_bd x
    have h5 := h1.2.lvs_bd y
    exact ⟨⟨h1.1, h1.2, h2.1.1, h2.1.2, h2.2.1.1, h2.2.1.2, by omega, by omega⟩, h2.2.2⟩
  · rintro ⟨h, hb⟩
    have h1 := h.tx
    have h2 := h.uy
    rw [if_neg (by rw [Decidable.not_not]; exact ⟨ltB_t h.t, ltB_t h.u⟩), if_neg (by rw [Decidable.not_not]; exact ⟨inB_t h.x0 h.x1, inB_t h.y0 h.y1, hb⟩), if_neg (by omega)]

/-! the same on truth values -/

def feB (D : Bool) (c d : Int) : Int := if c = 1 ∨ d = 1 then 1 else if c = 2 ∨ d = 2 ∨ D = false then 2 else if c = 5 ∨ d = 5 then 5 else 0

def clB (T X N P : Bool) : Int := if T = true then (if X = true ∧ N = true then (if P = true then 5 else 0) else 2) else 1

def anB (T R X B C : Bool) : Int := if T = true then (if R = true ∧ X = true ∧ B = true then (if C = true then 5 else 0) else 2) else 1

def twB (T U X D Y N P Q : Bool) : Int := if ¬ (T = true ∧ U = true) then 1 else if ¬ (X = true ∧ D = true ∧ Y = true ∧ N = true) then 2 else if P = true ∨ Q = true then 5 else 0

theorem fe_bool : ∀ T U X D Y N P Q : Bool, feB D (clB T X N P) (clB U Y N Q) = twB T U X D Y N P Q := by decide +kernel

theorem fa_bool : ∀ T U X D Y R B P Q C E : Bool, (P = true → C = true) → (Q = true → E = true) → feB D (anB T R X B C) (anB U R Y B E) = if twB T U X D Y (R && B) P Q = 0 ∧ (C = true ∨ E = true) then 5 else twB T U X D Y (R && B) P Q := by decide +kernel

theorem fe_b (x c d : Int) : feE x c d = feB (decide (x ≤ 100)) c d := by
  unfold feE feB
  simp only [decide_eq_false_iff_not, Int.not_le]

theorem cl_b (n : Int) : clE f xs x n = clB (ltB f xs) (inB x f 150) (inB n 0 150) (decide (lvs f xs x = 0)) := by
  unfold clE chE clB
  cases ltB f xs <;> cases inB x f 150 <;> cases inB n 0 150 <;> by_cases h : lvs f xs x = 0 <;> simp [h]

theorem in100 : inB x f 100 = (inB x f 150 && decide (x ≤ 100)) := by
  unfold inB
  rw [Bool.eq_iff_iff]
  simp
  omega

theorem tw_b {b : Bool} : twE f xs x g ys y b = twB (ltB f xs) (ltB g ys) (inB x f 150) (decide (x ≤ 100)) (inB y g 150) b (decide (lvs f xs x = 0)) (decide (lvs g ys y = 0)) := by
  unfold twE twB
  simp only [in100, Bool.and_eq_true, decide_eq_true_iff, and_assoc]

theorem fe_cl (n : Int) : feE x (clE f xs x n) (clE g ys y n) = twE f xs x g ys y (inB n 0 150) := by
  rw [fe_b, cl_b, cl_b, tw_b, fe_bool]

theorem an_b {r : Int} {b : Bool} : anE r f xs x b 0 = anB (ltB f xs) (rateB r) (inB x f 150) b (decide (cD r xs (x - f).toNat = 0)) := by
  unfold anE coE anB
  by_cases hx : inB x f 150 = true
  · have h2 := (inB_iff _ _ _).1 hx
    have h3 : x ≤ 150 := h2.2
    cases ltB f xs <;> cases rateB r <;> cases b <;> by_cases h : cD r xs (x - f).toNat = 0 <;> simp [h, hx, h3]
  · have hx' : inB x f 150 = false := by simpa using hx
    cases ltB f xs <;> cases rateB r <;> simp [hx']

/-- the code of two lives, a rate and an amount -/
def moE (r f : Int) (xs : List Int) (x g : Int) (ys : List Int) (y : Int) (b : Bool) : Int :=
  if twE f xs x g ys y (rateB r && b) = 0 ∧ (cD r xs (x - f).toNat = 0 ∨ cD r ys (y - g).toNat = 0) then 5 else twE f xs x g ys y (rateB r && b)

theorem fe_an {r : Int} {b : Bool} : feE x (anE r f xs x b 0) (anE r g ys y b 0) = moE r f xs x g ys y b := by
  rw [fe_b, an_b, an_b]
  unfold moE
  rw [tw_b, fa_bool _ _ _ _ _ _ _ (decide (lvs f xs x = 0)) (decide (lvs g ys y = 0))]
  · simp only [decide_eq_true_iff]
  · rw [decide_eq_true_iff, decide_eq_true_iff]
    intro h
    unfold lvs at h
    unfold cD
    rw [h, Int.zero_mul]
  · rw [decide_eq_true_iff, decide_eq_true_iff]
    intro h
    unfold lvs at h
    unfold cD
    rw [h, Int.zero_mul]

theorem rateB_iff2 {r : Int} : rateB r = true ↔ 0 ≤ r ∧ r ≤ 200 := by
  unfold rateB; first | exact inB_iff _ _ _ | simp

theorem mo_iff {r : Int} {b : Bool} : moE r f xs x g ys y b = 0 ↔ Duo f xs x g ys y ∧ (0 ≤ r ∧ r ≤ 200) ∧ b = true ∧ cD r xs (x - f).toNat ≠ 0 ∧ cD r ys (y - g).toNat ≠ 0 := by
  unfold moE
  by_cases h0 : twE f xs x g ys y (rateB r && b) = 0
  · have := tw_iff.1 h0
    rw [Bool.and_eq_true, rateB_iff2] at this
    obtain ⟨hd, hr, hb⟩ := this
    simp only [h0, true_and]
    split
    · rename_i h1
      constructor
      · intro h; omega
      · rintro ⟨_, _, _, a, b⟩; omega
    · rename_i h1
      exact ⟨fun _ => ⟨hd, hr, hb, by omega, by omega⟩, fun _ => rfl⟩
  · rw [if_neg (fun h => h0 h.1)]
    constructor
    · intro h; exact absurd h h0
    · rintro ⟨hd, hr, hb, _⟩
      exact tw_iff.2 ⟨hd, by rw [Bool.and_eq_true, rateB_iff2]; exact ⟨hr, hb⟩⟩

end

/-! ### fractions -/

theorem frac_mul (A B G : Int) (hA : 0 ≤ A) (hB : 1 ≤ B) (hG : 1 ≤ G) : A * G / gcdI (A * G) (B * G) = A / gcdI A B ∧ B * G / gcdI (A * G) (B * G) = B / gcdI A B := by
  obtain ⟨a, rfl⟩ := Int.eq_ofNat_of_zero_le hA
  obtain ⟨b, rfl⟩ := Int.eq_ofNat_of_zero_le (show 0 ≤ B by omega)
  obtain ⟨c, rfl⟩ := Int.eq_ofNat_of_zero_le (show 0 ≤ G by omega)
  have e1 : gcdI ((a : Int) * c) ((b : Int) * c) = ((Nat.gcd a b * c : Nat) : Int) := by
    unfold gcdI
    rw [← Int.natCast_mul, ← Int.natCast_mul, Int.toNat_natCast, Int.toNat_natCast, Nat.gcd_mul_right]
  have e2 : gcdI (a : Int) (b : Int) = ((Nat.gcd a b : Nat) : Int) := by unfold gcdI; simp
  rw [e1, e2, ← Int.natCast_mul, ← Int.natCast_mul, ← Int.natCast_ediv, ← Int.natCast_ediv, ← Int.natCast_ediv, ← Int.natCast_ediv]
  rw [Nat.mul_div_mul_right _ _ (by omega), Nat.mul_div_mul_right _ _ (by omega)]
  exact ⟨rfl, rfl⟩

theorem low_parts (A B : Int) (hA : 0 ≤ A) (hB : 1 ≤ B) : A / B * (B / gcdI (A % B) B) + A % B / gcdI (A % B) B = A / gcdI A B ∧ B / gcdI (A % B) B = B / gcdI A B := by
  have e : gcdI (A % B) B = gcdI A B := by
    have := gcdI_step A B hA (by omega)
    rw [← this]
    unfold gcdI
    rw [Nat.gcd_comm]
  rw [e]
  refine ⟨?_, rfl⟩
  have hg := gcdI_pos A B hA hB
  obtain ⟨G, hG⟩ : ∃ y_, gcdI A B = y_ := ⟨_, rfl⟩
  have d1 : G ∣ A := by
    rw [← hG]
    obtain ⟨a, rfl⟩ := Int.eq_ofNat_of_zero_le hA
    obtain ⟨b, rfl⟩ := Int.eq_ofNat_of_zero_le (show 0 ≤ B by omega)
    unfold gcdI
    rw [Int.toNat_natCast, Int.toNat_natCast]
    exact Int.natCast_dvd_natCast.2 (Nat.gcd_dvd_left _ _)
  have d2 : G ∣ B := by
    rw [← hG]
    obtain ⟨a, rfl⟩ := Int.eq_ofNat_of_zero_le hA
    obtain ⟨b, rfl⟩ := Int.eq_ofNat_of_zero_le (show 0 ≤ B by omega)
    unfold gcdI
    rw [Int.toNat_natCast, Int.toNat_natCast]
    exact Int.natCast_dvd_natCast.2 (Nat.gcd_dvd_right _ _)
  rw [hG] at hg ⊢
  obtain ⟨b, rfl⟩ := d2
  have h1 := Int.mul_ediv_add_emod A (G * b)
  obtain ⟨q, hq⟩ : ∃ y_, A / (G * b) = y_ := ⟨_, rfl⟩
  obtain ⟨m, hm⟩ : ∃ y_, A % (G * b) = y_ := ⟨_, rfl⟩
  rw [hq, hm] at h1 ⊢
  rw [Int.mul_ediv_cancel_left _ (show G ≠ 0 by omega)]
  have e4 : G * b * q = q * b * G := by rw [Int.mul_comm G b, Int.mul_assoc, Int.mul_comm G q, ← Int.mul_assoc, Int.mul_comm b q]
  have e3 : A = q * b * G + m := by rw [← h1, e4]
  rw [e3, Int.add_comm (q * b * G) m, Int.add_mul_ediv_right _ _ (show G ≠ 0 by omega), Int.add_comm]

set_option maxRecDepth 100000

end Go.Proofs.Ytpphiekbhikadaa

/- The joint table of the model: what a call returns. | A region that draws its order, whose last operation L stores into a cell that the region has loaded: a condition that holds till then. (No program in it.) | The joint table of the model: the walk. -/
namespace Go.Proofs.Ytpphiekbhikadaa
open Go.ChangeShapes Go.WideShapes Go.ChangeAt Go.RowKit
set_option linter.unusedVariables false
set_option maxRecDepth 100000

/-- a table that a call hands over -/
def JtPost (F : Int) (ys : List Int) (w : World) (e : Ending) (w' : World) : Prop := ∃ a n c, e = .returned (.agg #[.int .i64 F, .slice a n c]) ∧ TbR w.heap.size w' a n ys ∧ Below w.heap.size w w'

/-- the joint table's numbers, k of them -/
def jtK (f : Int) (xs : List Int) (x g : Int) (ys : List Int) (y : Int) (k : Nat) : List Int := (List.range k).map (jv f xs x g ys y)

theorem jtK_len {f : Int} {xs : List Int} {x g : Int} {ys : List Int} {y : Int} (k : Nat) : (jtK f xs x g ys y k).length = k := by simp [jtK]

theorem jtK_succ {f : Int} {xs : List Int} {x g : Int} {ys : List Int} {y : Int} (k : Nat) : jtK f xs x g ys y (k + 1) = jtK f xs x g ys y k ++ [jv f xs x g ys y k] := by simp [jtK, List.range_succ]

theorem jtK_get {f : Int} {xs : List Int} {x g : Int} {ys : List Int} {y : Int} (k i : Nat) (h : i < k) : (jtK f xs x g ys y k).getD i 0 = jv f xs x g ys y i := by
  rw [List.getD_eq_getElem?_getD, List.getElem?_eq_getElem (by rw [jtK_len]; exact h)]
  simp [jtK]

theorem jtK_all {f : Int} {xs : List Int} {x g : Int} {ys : List Int} {y : Int} : jtK f xs x g ys y (jn f xs x g ys y + 1) = jtL f xs x g ys y := rfl

/-- the model's joint table as it grows -/
structure Jg (w : World) (f : Int) (sa : Value) (g : Int) (sb : Value) (x : Int) (v : Value) (zs : List Int) (W : World) : Prop where
  k2 : K2 w f sa g sb W
  rb : Bx W (w.heap.size + 2) [.int .i64 0, .slice none 0 0]
  ob : Bx W (w.heap.size + 4) [.int .i64 x, v]
  own : OwnI (w.heap.size + 3) W v zs
  ne : v.ownBlock ≠ some (w.heap.size + 4)
  size : w.heap.size + 4 < W.heap.size

theorem own_shj {base : Nat} {w : World} {v : Value} {ys : List Int} (h : OwnI base w v ys) (hl : 0 < ys.length) : ∃ g c, v = .slice (some ⟨g, 0, none⟩) ys.length c ∧ base ≤ g := by
  obtain ⟨_, h0 | ⟨g, cap, cur, hv, hb, _⟩⟩ := h
  · omega
  · exact ⟨g, cap, hv, hb⟩

/-- .. and the store into its box -/
theorem Jg.fin {w : World} {f : Int} {sa : Value} {g : Int} {sb : Value} {x : Int} {v : Value} {zs : List Int} {q : Nat} {n c : Nat} {w5 : World}
    (h : K2 w f sa g sb w5) (hr : Bx w5 (w.heap.size + 2) [.int .i64 0, .slice none 0 0]) (hob : Bx w5 (w.heap.size + 4) [.int .i64 x, v]) (hown : OwnI (w.heap.size + 3) w5 (.slice (some ⟨q, 0, none⟩) n c) zs) (hne : q ≠ w.heap.size + 4) (hs : w.heap.size + 4 < w5.heap.size) :
    Jg w f sa g sb x (.slice (some ⟨q, 0, none⟩) n c) zs (w5.setCell ⟨w.heap.size + 4, 1, none⟩ (.slice (some ⟨q, 0, none⟩) n c)) := by
  have far : ∀ k, k ≠ w.heap.size + 4 → (w5.setCell ⟨w.heap.size + 4, 1, none⟩ (.slice (some ⟨q, 0, none⟩) n c)).heap[k]? = w5.heap[k]? := fun k hk => far_setCell _ _ _ _ hk
  refine ⟨⟨?_, ?_, ?_, ?_, ?_⟩, hr.same (far _ (by omega)), hob.set1 _, ?_, ?_, by simpa [World.setCell] using hs⟩
  · exact (World.cell?_of_block (w := w5) (a := ⟨w.heap.size, 0, none⟩) (far _ (by simp))).trans h.t0
  · exact (World.cell?_of_block (w := w5) (a := ⟨w.heap.size, 1, none⟩) (far _ (by simp))).trans h.t1
  · exact (World.cell?_of_block (w := w5) (a := ⟨w.heap.size + 1, 0, none⟩) (far _ (by simp))).trans h.u0
  · exact (World.cell?_of_block (w := w5) (a := ⟨w.heap.size + 1, 1, none⟩) (far _ (by simp))).trans h.u1
  · exact h.low.setCell (p := ⟨w.heap.size + 4, 1, none⟩) (by show w.heap.size ≤ w.heap.size + 4; omega) _
  · have hh := hown
    obtain ⟨h1, h0 | ⟨g', cap, cur, hv, hgb, hcell, r⟩⟩ := hown
    · exact absurd h0.1 (by simp)
    · refine ⟨h1, .inr ⟨g', cap, cur, hv, hgb, ?_, r⟩⟩
      simp only [Value.slice.injEq, Option.some.injEq, Addr.mk.injEq] at hv
      obtain ⟨⟨rfl, _⟩, _⟩ := hv
      rw [far_setCell _ _ _ _ hne]
      exact hcell
  · simp [Value.ownBlock]; omega

theorem K2.grown {w : World} {f : Int} {sa : Value} {g : Int} {sb : Value} {W w5 : World} {v : Value} {zs : List Int} {o : Obj} (h : K2 w f sa g sb W) (hown : OwnI (w.heap.size + 3) W v zs) (hs : w.heap.size + 4 < W.heap.size) (hg : (W.alloc o).grownBy w5 v.ownBlock) : K2 w f sa g sb w5 := by
  have hb := app_below hown (by omega) hg
  exact ⟨(hb.cell (p := ⟨w.heap.size, 0, none⟩) (by simp)).trans h.t0, (hb.cell (p := ⟨w.heap.size, 1, none⟩) (by simp)).trans h.t1, (hb.cell (p := ⟨w.heap.size + 1, 0, none⟩) (by simp)).trans h.u0, (hb.cell (p := ⟨w.heap.size + 1, 1, none⟩) (by simp)).trans h.u1, h.low.trans (hb.mono (by omega))⟩

/-- what a step of the model's joint table leaves as it was -/
structure SJ (w : World) (f : Int) (sa : Value) (g : Int) (sb : Value) (W : World) : Prop where
  k2 : K2 w f sa g sb W
  rb : Bx W (w.heap.size + 2) [.int .i64 0, .slice none 0 0]
  size : w.heap.size + 4 < W.heap.size

theorem SJ.on {w : World} {f : Int} {sa : Value} {g : Int} {sb : Value} {W W' : World} (h : SJ w f sa g sb W) (hb : Below W.heap.size W W') : SJ w f sa g sb W' :=
  ⟨h.k2.on hb, h.rb.on hb, Nat.lt_of_lt_of_le h.size hb.size⟩

theorem SJ.drew {w : World} {f : Int} {sa : Value} {g : Int} {sb : Value} {W : World} (h : SJ w f sa g sb W) : SJ w f sa g sb W.drew :=
  ⟨⟨cell_drew h.k2.t0, cell_drew h.k2.t1, cell_drew h.k2.u0, cell_drew h.k2.u1, h.k2.low.drew⟩, h.rb, h.size⟩

theorem SJ.app {w : World} {f : Int} {sa : Value} {g : Int} {sb : Value} {W w5 : World} {row : Option Nat} (h : SJ w f sa g sb W) (hg : W.grownBy w5 row) (hr : ∀ k, row = some k → w.heap.size + 3 ≤ k) : SJ w f sa g sb w5 := by
  have hs := h.size
  have far : ∀ k, k < w.heap.size + 3 → w5.heap[k]? = W.heap[k]? := fun k hk => hg.block k (by omega) (fun e => by have := hr k e.symm; omega)
  refine ⟨⟨?_, ?_, ?_, ?_, h.k2.low.grown hg (by omega) (fun k hk => by have := hr k hk; omega)⟩, h.rb.same (far _ (by omega)), Nat.lt_of_lt_of_le hs hg.size⟩
  · exact (World.cell?_of_block (w := W) (a := ⟨w.heap.size, 0, none⟩) (far _ (by simp))).trans h.k2.t0
  · exact (World.cell?_of_block (w := W) (a := ⟨w.heap.size, 1, none⟩) (far _ (by simp))).trans h.k2.t1
  · exact (World.cell?_of_block (w := W) (a := ⟨w.heap.size + 1, 0, none⟩) (far _ (by simp))).trans h.k2.u0
  · exact (World.cell?_of_block (w := W) (a := ⟨w.heap.size + 1, 1, none⟩) (far _ (by simp))).trans h.k2.u1

theorem SJ.set {w : World} {f : Int} {sa : Value} {g : Int} {sb : Value} {W : World} (h : SJ w f sa g sb W) (v : Value) : SJ w f sa g sb (W.setCell ⟨w.heap.size + 4, 1, none⟩ v) := by
  have far : ∀ k, k < w.heap.size + 3 → (W.setCell ⟨w.heap.size + 4, 1, none⟩ v).heap[k]? = W.heap[k]? := fun k hk => far_setCell _ _ _ _ (by show k ≠ w.heap.size + 4; omega)
  refine ⟨⟨?_, ?_, ?_, ?_, h.k2.low.setCell (p := ⟨w.heap.size + 4, 1, none⟩) (by show w.heap.size ≤ w.heap.size + 4; omega) _⟩, h.rb.same (far _ (by omega)), by have := h.size; simpa [World.setCell] using this⟩
  · exact (World.cell?_of_block (w := W) (a := ⟨w.heap.size, 0, none⟩) (far _ (by simp))).trans h.k2.t0
  · exact (World.cell?_of_block (w := W) (a := ⟨w.heap.size, 1, none⟩) (far _ (by simp))).trans h.k2.t1
  · exact (World.cell?_of_block (w := W) (a := ⟨w.heap.size + 1, 0, none⟩) (far _ (by simp))).trans h.k2.u0
  · exact (World.cell?_of_block (w := W) (a := ⟨w.heap.size + 1, 1, none⟩) (far _ (by simp))).trans h.k2.u1

theorem sjS {w : World} {f : Int} {sa : Value} {g : Int} {sb : Value} {W : World} {x : Int} {v : Value} (h : SJ w f sa g sb W) (k : Bx W (w.heap.size + 4) [.int .i64 x, v]) :
    W.cell? ⟨w.heap.size, 0, none⟩ = some (.int .i64 f) ∧ W.cell? ⟨w.heap.size, 1, none⟩ = some sa ∧ W.cell? ⟨w.heap.size + 1, 0, none⟩ = some (.int .i64 g) ∧ W.cell? ⟨w.heap.size + 1, 1, none⟩ = some sb ∧ W.cell? ⟨w.heap.size + 1 + 1 + 1 + 1, 1, none⟩ = some v ∧ w.heap.size + 3 ≤ W.heap.size ∧ Hid (SJ w f sa g sb W) :=
  ⟨h.k2.t0, h.k2.t1, h.k2.u0, h.k2.u1, k.two.2, by have := h.size; omega, Lib.hid h⟩

theorem own_sh3 {base : Nat} {w : World} {v : Value} {ys : List Int} (h : OwnI base w v ys) (hl : 0 < ys.length) : ∃ g n c, v = .slice (some ⟨g, 0, none⟩) n c ∧ base ≤ g ∧ n = ys.length := by
  obtain ⟨_, h0 | ⟨g, cap, cur, hv, hb, _⟩⟩ := h
  · omega
  · exact ⟨g, _, cap, hv, hb, rfl⟩

/-- the new block of an append is not the table's box -/
theorem own_ne {w W : World} {o : Obj} {v : Value} {g n c : Nat} (hne : v.ownBlock ≠ some (w.heap.size + 4)) (hs : w.heap.size + 4 < W.heap.size) (hw : (Value.slice (some ⟨g, 0, none⟩) n c).ownBlock = v.ownBlock ∨ (Value.slice (some ⟨g, 0, none⟩) n c).ownBlock = some (W.alloc o).heap.size) : g ≠ w.heap.size + 4 := by
  rcases hw with h | h
  · intro e; subst e; exact hne h.symm
  · simp [Value.ownBlock] at h; omega

/-- it is handed over -/
theorem Jg.post {w : World} {f : Int} {sa : Value} {g : Int} {sb : Value} {x : Int} {q n c : Nat} {zs ys : List Int} {W : World} (H : Jg w f sa g sb x (.slice (some ⟨q, 0, none⟩) n c) zs W) (he : zs = ys) (hl : n = zs.length) (hp : 0 < n) (hn : n ≤ 4096) :
    JtPost x ys w (.returned (.agg #[.int .i64 x, .slice (some ⟨q, 0, none⟩) n c])) ((W.setCell ⟨w.heap.size + 2, 0, none⟩ (.int .i64 x)).setCell ⟨w.heap.size + 2, 1, none⟩ (.slice (some ⟨q, 0, none⟩) n c)) := by
  subst he
  subst hl
  have hrow := H.own.row
  have hq : w.heap.size + 3 ≤ q := by
    obtain ⟨g', c', hv, hb⟩ := own_shj H.own hp
    simp only [Value.slice.injEq, Option.some.injEq, Addr.mk.injEq] at hv
    omega
  have ho : Only (w.heap.size + 2) W ((W.setCell ⟨w.heap.size + 2, 0, none⟩ (.int .i64 x)).setCell ⟨w.heap.size + 2, 1, none⟩ (.slice (some ⟨q, 0, none⟩) zs.length c)) := ((Only.refl _ W).setCell (p := ⟨w.heap.size + 2, 0, none⟩) rfl _).setCell (p := ⟨w.heap.size + 2, 1, none⟩) rfl _
  refine ⟨_, _, _, rfl, ⟨rfl, hn, .inr ⟨q, 0, rfl, by omega, ?_, hrow.only ho (by omega)⟩⟩, H.k2.low.trans (ho.below (by omega))⟩
  rw [ho.size]
  exact hrow.lt hp

set_option linter.unusedSimpArgs false

end Go.Proofs.Ytpphiekbhikadaa

/- MakeTable of the program: what the calls return. -/
namespace Go.Proofs.Ytpphiekbhikadaa
open Go.ChangeShapes Go.WideShapes Go.ChangeAt Go.RowKit
set_option linter.unusedVariables false

theorem one_newT (w : World) (x : Int) : ∀ j u, [Value.int .i64 x][j]? = some u → (w.alloc (.cells #[.int .i64 x] 2)).cell? ((⟨w.heap.size, 0, none⟩ : Addr).add j) = some u := by
  intro j u hj
  match j, hj with
  | 0, hj => simp at hj; subst hj; simp [Addr.add]

theorem ownI_one (w : World) (x : Int) : OwnI w.heap.size (w.alloc (.cells #[.int .i64 x] 2)) (.slice (some ⟨w.heap.size, 0, none⟩) 1 1) [x] :=
  World.ownsRow_lit w #[.int .i64 x] 1 (Nat.le_refl _) (by unfold maxLen; omega) rfl

/-- a list that a call has made: where it lies, what it holds -/
def Made (w : World) (xs : List Int) (v : Value) (w' : World) : Prop := ∃ g c, v = .slice (some ⟨g, 0, none⟩) xs.length c ∧ xs.length ≤ c ∧ w.heap.size ≤ g ∧ RowI w' g 0 xs ∧ Below w.heap.size w w'

theorem OwnI.made {w w' : World} {v : Value} {xs : List Int} (h : OwnI w.heap.size w' v xs) (hb : Below w.heap.size w w') (hl : 0 < xs.length) : Made w xs v w' := by
  have hh := h
  obtain ⟨_, ⟨rfl, h0⟩ | ⟨g, cap, cur, rfl, hg, hc, hn, hcap, _⟩⟩ := h
  · omega
  · exact ⟨g, cap, rfl, hn, hg, hh.row, hb⟩

/-- rates of a table -/
def rtsB (rs : List Int) : Bool := rs.all fun r => inB r 0 1000

theorem rtsB_iff (rs : List Int) : rtsB rs = true ↔ ∀ r ∈ rs, 0 ≤ r ∧ r ≤ 1000 := by
  unfold rtsB; rw [List.all_eq_true]
  exact ⟨fun h r hr => (inB_iff _ _ _).1 (h r hr), fun h r hr => (inB_iff _ _ _).2 (h r hr)⟩

theorem du_1000 (a : Int) (h0 : 0 ≤ a) (h1 : a ≤ 1000000000) : duV a 1000 = up1000 a := by
  have : ddB a 1000 = true := (ddB_iff _ _).2 (by omega)
  simp [duV, this, up1000]

end Go.Proofs.Ytpphiekbhikadaa

/- MakeTable of the program: what the calls return. -/
namespace Go.Proofs.Ytpphiekbhikadaa
open Go.ChangeShapes Go.WideShapes Go.ChangeAt Go.RowKit
set_option linter.unusedVariables false

/-- whether a table is made of these -/
def mkB (f L : Int) (rs : List Int) : Bool := inB f 0 100 && inB L 1 1000000 && (decide (rs.length ≤ 118) && decide ((rs.length : Int) ≤ 149 - f)) && rtsB rs

theorem mkB_iff (f L : Int) (rs : List Int) : mkB f L rs = true ↔ (0 ≤ f ∧ f ≤ 100) ∧ (1 ≤ L ∧ L ≤ 1000000) ∧ (rs.length ≤ 118 ∧ (rs.length : Int) ≤ 149 - f) ∧ ∀ r ∈ rs, 0 ≤ r ∧ r ≤ 1000 := by
  unfold mkB
  simp only [Bool.and_eq_true, inB_iff, rtsB_iff, decide_eq_true_iff]
  constructor
  · rintro ⟨⟨⟨a, b⟩, c⟩, d⟩; exact ⟨a, b, c, d⟩
  · rintro ⟨a, b, c, d⟩; exact ⟨⟨⟨a, b⟩, c⟩, d⟩

theorem mkB_no {f L : Int} {rs : List Int} (h : mkB f L rs = true → False) : mkB f L rs = false := by
  rw [Bool.eq_false_iff]; exact h

def MkPost (f L : Int) (rs : List Int) (w : World) (e : Ending) (w' : World) : Prop :=
  (mkB f L rs = true ∧ ∃ v, e = .returned (.tuple #[.agg #[.int .i64 f, v], .int .i64 0]) ∧ Made w (mkL L rs) v w') ∨
  (mkB f L rs = false ∧ e = .returned (.tuple #[.agg #[.int .i64 0, .slice none 0 0], .int .i64 2]) ∧ Below w.heap.size w w')

theorem MkPost.bad {f L : Int} {rs : List Int} {w w' : World} (h : mkB f L rs = false) (hb : Below w.heap.size w w') : MkPost f L rs w (.returned (.tuple #[.agg #[.int .i64 0, .slice none 0 0], .int .i64 2])) w' := .inr ⟨h, rfl, hb⟩

theorem two_set (w : World) (x y u v : Value) (T : TypeId) : (((w.alloc (.cells #[x, y] T)).setCell ⟨w.heap.size, 0, none⟩ u).setCell ⟨w.heap.size, 1, none⟩ v).cell? ⟨w.heap.size, 0, none⟩ = some u ∧ (((w.alloc (.cells #[x, y] T)).setCell ⟨w.heap.size, 0, none⟩ u).setCell ⟨w.heap.size, 1, none⟩ v).cell? ⟨w.heap.size, 1, none⟩ = some v := by
  constructor <;> go_simp

end Go.Proofs.Ytpphiekbhikadaa

/- Life tables that a law takes, makes and compares; the exact laws on IsLifeTable, LivesAt, DeathsAt and SurvivalOf. -/
namespace Go.Proofs.Ytpphiekbhikadaa
open Go.ChangeShapes Go.WideShapes Go.ChangeAt Go.RowKit
set_option linter.unusedVariables false

theorem szS_big (a : Option Addr) (l c : Nat) (n : Int) (w : World) (hl : l ≤ 9223372036854775807) (n0 : 0 ≤ n) (n1 : n ≤ 1048576) (hlt : n < (l : Int)) :
    Calls Try.prog 59 #[.slice a l c, .int .i64 n] w fun e w' => e = .returned (.int .i64 (-1)) ∧ w = w' := by
  have h2 : n - (l : Int) < 0 := by omega
  go_enter Try.func59, Try.ntmps59
  go_wp2_with fail
  go_ret
  exact ⟨rfl, rfl⟩

theorem szS_fit (a : Option Addr) (l c : Nat) (n : Int) (w : World) (n0 : 0 ≤ n) (n1 : n ≤ 1048576) (hlt : (l : Int) ≤ n) :
    Calls Try.prog 59 #[.slice a l c, .int .i64 n] w fun e w' => e = .returned (.int .i64 (n - l)) ∧ w = w' := by
  have h2 : ¬ n - (l : Int) < 0 := by omega
  go_enter Try.func59, Try.ntmps59
  go_wp2_with fail
  go_ret
  exact ⟨rfl, rfl⟩

/-- a table that a law has copied: in a block of its own -/
def ToPost (w : World) (f : Int) (xs : List Int) (l : Nat) (e : Ending) (w' : World) : Prop := ∃ B, e = .returned (.agg #[.int .i64 f, .slice (some ⟨B, 0, none⟩) l l]) ∧ w.heap.size ≤ B ∧ Blk w' B xs ∧ Below w.heap.size w w'

end Go.Proofs.Ytpphiekbhikadaa

/- ExpectedYears and MiddleAge of the model: what the calls return. | MiddleAge of the model: what the calls return. -/
namespace Go.Proofs.Ytpphiekbhikadaa
open Go.ChangeShapes Go.WideShapes Go.ChangeAt Go.RowKit
set_option linter.unusedVariables false

/-- the years that are still lived, in lowest terms -/
def exN (f : Int) (xs : List Int) (x : Int) : Int := if clE f xs x 0 = 0 then laterSum f xs x / gcdI (laterSum f xs x) (lvs f xs x) else 0

def exD (f : Int) (xs : List Int) (x : Int) : Int := if clE f xs x 0 = 0 then lvs f xs x / gcdI (laterSum f xs x) (lvs f xs x) else 0

theorem ex_n {f : Int} {xs : List Int} {x : Int} (h : ¬ clE f xs x 0 = 0) : exN f xs x = 0 ∧ exD f xs x = 0 := by simp [exN, exD, h]

theorem ex_0 {f : Int} {xs : List Int} {x u v : Int} (h : clE f xs x 0 = 0) (hu : laterSum f xs x = u) (hv : lvs f xs x = v) : exN f xs x = u / gcdI u v ∧ exD f xs x = v / gcdI u v := by
  simp [exN, exD, h, hu, hv]

/-- the middle age, and 0 beside an error -/
def miV (f : Int) (xs : List Int) (x : Int) : Int := if clE f xs x 0 = 0 then mdV f xs x else 0

theorem mi_n {f : Int} {xs : List Int} {x : Int} (h : ¬ clE f xs x 0 = 0) : miV f xs x = 0 := by simp [miV, h]

theorem mi_0 {f : Int} {xs : List Int} {x : Int} (h : clE f xs x 0 = 0) : miV f xs x = mdV f xs x := by simp [miV, h]

theorem LTab.later_bd {f : Int} {xs : List Int} (h : LTab f xs) (x : Int) (hx : f ≤ x) : 0 ≤ laterSum f xs x ∧ laterSum f xs x ≤ 120000000 := by
  have := h.partSum_bd x hx 120
  rw [partSum_all f xs x 120 (by have := h.2.1.2; omega)] at this
  omega

end Go.Proofs.Ytpphiekbhikadaa

/- Two lives, as numbers: the joint table, the codes, chances in lowest terms (no program in it). | Fractions of the program; boxes of two tables; the first error of two codes: what the calls return. | Two lives: the model's code, its joint table, its chances. (Written by wip/gen/jms.py.) -/
import Derived.Test.YtlcmgihaelgclaaGreatAnn
namespace Go.Proofs.YtlcmgihaelgclaaGreat
open Go.ChangeShapes Go.WideShapes Go.ChangeAt Go.RowKit
set_option linter.unusedVariables false

/-- the first number of k .. k + n - 1 at which v is 0; k + n if there is none -/
def fz (v : Nat → Int) : Nat → Nat → Nat
  | 0, k => k
  | n + 1, k => if v k = 0 then k else fz v n (k + 1)

theorem fz_le (v : Nat → Int) (n k : Nat) : k ≤ fz v n k ∧ fz v n k ≤ k + n := by
  induction n generalizing k with
  | zero => simp [fz]
  | succ n ih =>
    rw [fz]
    split
    · omega
    · have := ih (k + 1); omega

theorem fz_hit (v : Nat → Int) (n k : Nat) (h : fz v n k < k + n) : v (fz v n k) = 0 := by
  induction n generalizing k with
  | zero => simp [fz] at h
  | succ n ih =>
    rw [fz] at h ⊢
    split
    · assumption
    · rename_i hp
      rw [if_neg hp] at h
      exact ih (k + 1) (by omega)

theorem fz_min (v : Nat → Int) (n k j : Nat) (h1 : k ≤ j) (h2 : j < fz v n k) : v j ≠ 0 := by
  induction n generalizing k with
  | zero => simp [fz] at h2; omega
  | succ n ih =>
    rw [fz] at h2
    split at h2
    · omega
    · rename_i hp
      by_cases hk : k = j
      · subst hk; exact hp
      · exact ih (k + 1) (by omega) h2

theorem fz_end (v : Nat → Int) (n k j : Nat) (h1 : k ≤ j) (h2 : j < k + n) (h3 : v j = 0) : fz v n k ≤ j := by
  by_cases h : j < fz v n k
  · exact absurd h3 (fz_min v n k j h1 h)
  · omega

/-- two lives that are right -/
structure Duo (f : Int) (xs : List Int) (x g : Int) (ys : List Int) (y : Int) : Prop where
  t : LTab f xs
  u : LTab g ys
  x0 : f ≤ x
  x1 : x ≤ 100
  y0 : g ≤ y
  y1 : y ≤ 150
  tx : 1 ≤ lvs f xs x
  uy : 1 ≤ lvs g ys y

/-- the numbers of the joint table -/
def jv (f : Int) (xs : List Int) (x g : Int) (ys : List Int) (y : Int) (k : Nat) : Int := lvs f xs (x + k) * lvs g ys (y + k) / lvs g ys y

/-- the index of the first one that is 0 -/
def jn (f : Int) (xs : List Int) (x g : Int) (ys : List Int) (y : Int) : Nat := fz (jv f xs x g ys y) 121 0

/-- the joint table's list -/
def jtL (f : Int) (xs : List Int) (x g : Int) (ys : List Int) (y : Int) : List Int := (List.range (jn f xs x g ys y + 1)).map (jv f xs x g ys y)

section
variable {f : Int} {xs : List Int} {x g : Int} {ys : List Int} {y : Int}

theorem Duo.jv_bd (h : Duo f xs x g ys y) (k : Nat) : 0 ≤ jv f xs x g ys y k ∧ jv f xs x g ys y k ≤ lvs f xs (x + k) := by
  have h1 := h.t.lvs_bd (x + k)
  have h2 := h.u.lvs_bd (y + k)
  have h3 := h.u.lvs_mono y (y + k) (by omega)
  have h4 := h.uy
  unfold jv
  constructor
  · exact Int.ediv_nonneg (Int.mul_nonneg h1.1 h2.1) (by omega)
  · refine Int.ediv_le_of_le_mul (by omega) ?_
    exact Int.mul_le_mul_of_nonneg_left h3 h1.1

theorem Duo.jv0 (h : Duo f xs x g ys y) : jv f xs x g ys y 0 = lvs f xs x := by
  have h4 := h.uy
  unfold jv
  rw [show x + ((0 : Nat) : Int) = x by omega, show y + ((0 : Nat) : Int) = y by omega]
  exact Int.mul_ediv_cancel _ (by omega)

theorem Duo.jv_step (h : Duo f xs x g ys y) (k : Nat) : jv f xs x g ys y (k + 1) ≤ jv f xs x g ys y k := by
  have h1 := h.t.lvs_bd (x + (k + 1 : Nat))
  have h2 := h.u.lvs_bd (y + k)
  have h3 := h.t.lvs_mono (x + k) (x + (k + 1 : Nat)) (by omega)
  have h5 := h.u.lvs_mono (y + k) (y + (k + 1 : Nat)) (by omega)
  have h4 := h.uy
  unfold jv
  refine Int.ediv_le_ediv (by omega) ?_
  exact Int.le_trans (Int.mul_le_mul_of_nonneg_left h5 h1.1) (Int.mul_le_mul_of_nonneg_right h3 h2.1)

theorem Duo.jv_t (h : Duo f xs x g ys y) (k : Nat) (hk : f + xs.length ≤ x + k + 1) : jv f xs x g ys y k = 0 := by
  unfold jv
  rw [h.t.lvs_zero (x + k) hk, Int.zero_mul, Int.zero_ediv]

theorem Duo.jv_u (h : Duo f xs x g ys y) (k : Nat) (hk : g + ys.length ≤ y + k + 1) : jv f xs x g ys y k = 0 := by
  unfold jv
  rw [h.u.lvs_zero (y + k) hk, Int.mul_zero, Int.zero_ediv]

theorem Duo.x_lt (h : Duo f xs x g ys y) : x + 1 < f + xs.length := by
  by_cases hh : x + 1 < f + xs.length
  · exact hh
  · have := h.t.lvs_zero x (by omega); have := h.tx; omega

theorem Duo.y_lt (h : Duo f xs x g ys y) : y + 1 < g + ys.length := by
  by_cases hh : y + 1 < g + ys.length
  · exact hh
  · have := h.u.lvs_zero y (by omega); have := h.uy; omega

theorem Duo.jn_t (h : Duo f xs x g ys y) : x + jn f xs x g ys y + 1 ≤ f + xs.length := by
  have h1 := h.x_lt
  have h2 := h.t.2.1
  have := fz_end (jv f xs x g ys y) 121 0 (f + xs.length - x - 1).toNat (by omega) (by have := h.x0; omega) (h.jv_t _ (by omega))
  unfold jn; omega

theorem Duo.jn_u (h : Duo f xs x g ys y) : y + jn f xs x g ys y + 1 ≤ g + ys.length := by
  have h1 := h.y_lt
  have h2 := h.u.2.1
  have := fz_end (jv f xs x g ys y) 121 0 (g + ys.length - y - 1).toNat (by omega) (by have := h.y0; omega) (h.jv_u _ (by omega))
  unfold jn; omega

theorem Duo.jn_le (h : Duo f xs x g ys y) : 1 ≤ jn f xs x g ys y ∧ jn f xs x g ys y ≤ 119 := by
  have h1 := h.jn_t
  have h2 := h.t.2.1
  have h3 := h.x0
  refine ⟨?_, by omega⟩
  by_cases h0 : jn f xs x g ys y = 0
  · have := fz_hit (jv f xs x g ys y) 121 0 (by unfold jn at h0; omega)
    unfold jn at h0
    rw [h0, h.jv0] at this
    have := h.tx
    omega
  · omega

theorem Duo.jn_hit (h : Duo f xs x g ys y) : jv f xs x g ys y (jn f xs x g ys y) = 0 := by
  have := h.jn_le
  exact fz_hit (jv f xs x g ys y) 121 0 (by unfold jn at this; omega)

theorem Duo.jn_pos (h : Duo f xs x g ys y) (k : Nat) (hk : k < jn f xs x g ys y) : 1 ≤ jv f xs x g ys y k := by
  have h1 := fz_min (jv f xs x g ys y) 121 0 k (by omega) hk
  have h2 := (h.jv_bd k).1
  omega

theorem Duo.jn_far (h : Duo f xs x g ys y) (k : Nat) (hk : jn f xs x g ys y ≤ k) : jv f xs x g ys y k = 0 := by
  induction k with
  | zero =>
    have := h.jn_hit
    rw [show jn f xs x g ys y = 0 by omega] at this
    exact this
  | succ k ih =>
    by_cases he : jn f xs x g ys y = k + 1
    · have := h.jn_hit; rw [he] at this; exact this
    · have h1 := ih (by omega)
      have h2 := h.jv_step k
      have h3 := (h.jv_bd (k + 1)).1
      omega

theorem jtL_len : (jtL f xs x g ys y).length = jn f xs x g ys y + 1 := by simp [jtL]

theorem jtL_get (k : Nat) (hk : k ≤ jn f xs x g ys y) : (jtL f xs x g ys y).getD k 0 = jv f xs x g ys y k := by
  rw [List.getD_eq_getElem?_getD, List.getElem?_eq_getElem (by rw [jtL_len]; omega)]
  simp [jtL]

theorem Duo.get (h : Duo f xs x g ys y) (k : Nat) : (jtL f xs x g ys y).getD k 0 = jv f xs x g ys y k := by
  by_cases hk : k ≤ jn f xs x g ys y
  · exact jtL_get k hk
  · rw [h.jn_far k (by omega)]; exact getD_far _ _ (by rw [jtL_len]; omega)

theorem Duo.ltab (h : Duo f xs x g ys y) : LTab x (jtL f xs x g ys y) := by
  have h1 := h.jn_le
  have h2 := h.jn_t
  have h3 := h.t.2.2.1
  have h4 := h.t.1
  have h5 := h.x0
  refine ⟨⟨by omega, h.x1⟩, by rw [jtL_len]; omega, by rw [jtL_len]; omega, ?_, ?_, ?_⟩
  · rw [h.get, h.jv0]; exact ⟨h.tx, (h.t.lvs_bd x).2⟩
  · rw [h.get, jtL_len]; exact h.jn_far _ (by omega)
  · intro i hi h1
    rw [h.get, h.get, jtL_len]
    rw [jtL_len] at hi
    refine ⟨?_, fun hl => h.jn_pos i (by omega)⟩
    have := h.jv_step (i - 1)
    rw [show i - 1 + 1 = i by omega] at this
    exact this

theorem Duo.jlvs (h : Duo f xs x g ys y) (k : Nat) : lvs x (jtL f xs x g ys y) (x + k) = jv f xs x g ys y k := by
  unfold lvs
  rw [show (x + (k : Int) - x).toNat = k by omega]
  exact h.get k

theorem Duo.jx (h : Duo f xs x g ys y) : lvs x (jtL f xs x g ys y) x = lvs f xs x := by
  have := h.jlvs 0
  rw [show x + ((0 : Nat) : Int) = x by omega, h.jv0] at this
  exact this

/-! ### codes -/

/-- the code of two codes -/
def feE (x c d : Int) : Int := if c = 1 ∨ d = 1 then 1 else if c = 2 ∨ d = 2 ∨ 100 < x then 2 else if c = 5 ∨ d = 5 then 5 else 0

/-- the code of two lives -/
def twE (f : Int) (xs : List Int) (x g : Int) (ys : List Int) (y : Int) (b : Bool) : Int :=
  if ¬ (ltB f xs = true ∧ ltB g ys = true) then 1 else if ¬ (inB x f 100 = true ∧ inB y g 150 = true ∧ b = true) then 2 else if lvs f xs x = 0 ∨ lvs g ys y = 0 then 5 else 0

theorem tw_iff {b : Bool} : twE f xs x g ys y b = 0 ↔ Duo f xs x g ys y ∧ b = true := by
  unfold twE
  constructor
  · intro h
    split at h
    · omega
    rename_i h1
    split at h
    · omega
    rename_i h2
    split at h
    · omega
    rename_i h3
    have h1 := Decidable.not_not.1 h1
    have h2 := Decidable.not_not.1 h2
    rw [ltB_iff, ltB_iff] at h1
    rw [inB_iff, inB_iff] at h2
    have h4 := h1.1.lvs_bd x
    have h5 := h1.2.lvs_bd y
    exact ⟨⟨h1.1, h1.2, h2.1.1, h2.1.2, h2.2.1.1, h2.2.1.2, by omega, by omega⟩, h2.2.2⟩
  · rintro ⟨h, hb⟩
    have h1 := h.tx
    have h2 := h.uy
    rw [if_neg (by rw [Decidable.not_not]; exact ⟨ltB_t h.t, ltB_t h.u⟩), if_neg (by rw [Decidable.not_not]; exact ⟨inB_t h.x0 h.x1, inB_t h.y0 h.y1, hb⟩), if_neg (by omega)]

/-! the same on truth values -/

def feB (D : Bool) (c d : Int) : Int := if c = 1 ∨ d = 1 then 1 else if c = 2 ∨ d = 2 ∨ D = false then 2 else if c = 5 ∨ d = 5 then 5 else 0

def clB (T X N P : Bool) : Int := if T = true then (if X = true ∧ N = true then (if P = true then 5 else 0) else 2) else 1

def anB (T R X B C : Bool) : Int := if T = true then (if R = true ∧ X = true ∧ B = true then (if C = true then 5 else 0) else 2) else 1

def twB (T U X D Y N P Q : Bool) : Int := if ¬ (T = true ∧ U = true) then 1 else if ¬ (X = true ∧ D = true ∧ Y = true ∧ N = true) then 2 else if P = true ∨ Q = true then 5 else 0

theorem fe_bool : ∀ T U X D Y N P Q : Bool, feB D (clB T X N P) (clB U Y N Q) = twB T U X D Y N P Q := by decide +kernel

theorem fa_bool : ∀ T U X D Y R B P Q C E : Bool, (P = true → C = true) → (Q = true → E = true) → feB D (anB T R X B C) (anB U R Y B E) = if twB T U X D Y (R && B) P Q = 0 ∧ (C = true ∨ E = true) then 5 else twB T U X D Y (R && B) P Q := by decide +kernel

theorem fe_b (x c d : Int) : feE x c d = feB (decide (x ≤ 100)) c d := by
  unfold feE feB
  simp only [decide_eq_false_iff_not, Int.not_le]

theorem cl_b (n : Int) : clE f xs x n = clB (ltB f xs) (inB x f 150) (inB n 0 150) (decide (lvs f xs x = 0)) := by
  unfold clE chE clB
  cases ltB f xs <;> cases inB x f 150 <;> cases inB n 0 150 <;> by_cases h : lvs f xs x = 0 <;> simp [h]

theorem in100 : inB x f 100 = (inB x f 150 && decide (x ≤ 100)) := by
  unfold inB
  rw [Bool.eq_iff_iff]
  simp
  omega

theorem tw_b {b : Bool} : twE f xs x g ys y b = twB (ltB f xs) (ltB g ys) (inB x f 150) (decide (x ≤ 100)) (inB y g 150) b (decide (lvs f xs x = 0)) (decide (lvs g ys y = 0)) := by
  unfold twE twB
  simp only [in100, Bool.and_eq_true, decide_eq_true_iff, and_assoc]

theorem fe_cl (n : Int) : feE x (clE f xs x n) (clE g ys y n) = twE f xs x g ys y (inB n 0 150) := by
  rw [fe_b, cl_b, cl_b, tw_b, fe_bool]

theorem an_b {r : Int} {b : Bool} : anE r f xs x b 0 = anB (ltB f xs) (rateB r) (inB x f 150) b (decide (cD r xs (x - f).toNat = 0)) := by
  unfold anE coE anB
  by_cases hx : inB x f 150 = true
  · have h2 := (inB_iff _ _ _).1 hx
    have h3 : x ≤ 150 := h2.2
    cases ltB f xs <;> cases rateB r <;> cases b <;> by_cases h : cD r xs (x - f).toNat = 0 <;> simp [h, hx, h3]
  · have hx' : inB x f 150 = false := by simpa using hx
    cases ltB f xs <;> cases rateB r <;> simp [hx']

/-- the code of two lives, a rate and an amount -/
def moE (r f : Int) (xs : List Int) (x g : Int) (ys : List Int) (y : Int) (b : Bool) : Int :=
  if twE f xs x g ys y (rateB r && b) = 0 ∧ (cD r xs (x - f).toNat = 0 ∨ cD r ys (y - g).toNat = 0) then 5 else twE f xs x g ys y (rateB r && b)

theorem fe_an {r : Int} {b : Bool} : feE x (anE r f xs x b 0) (anE r g ys y b 0) = moE r f xs x g ys y b := by
  rw [fe_b, an_b, an_b]
  unfold moE
  rw [tw_b, fa_bool _ _ _ _ _ _ _ (decide (lvs f xs x = 0)) (decide (lvs g ys y = 0))]
  · simp only [decide_eq_true_iff]
  · rw [decide_eq_true_iff, decide_eq_true_iff]
    intro h
    unfold lvs at h
    unfold cD
    rw [h, Int.zero_mul]
  · rw [decide_eq_true_iff, decide_eq_true_iff]
    intro h
    unfold lvs at h
    unfold cD
    rw [h, Int.zero_mul]

theorem rateB_iff2 {r : Int} : rateB r = true ↔ 0 ≤ r ∧ r ≤ 200 := by
  unfold rateB; first | exact inB_iff _ _ _ | simp

theorem mo_iff {r : Int} {b : Bool} : moE r f xs x g ys y b = 0 ↔ Duo f xs x g ys y ∧ (0 ≤ r ∧ r ≤ 200) ∧ b = true ∧ cD r xs (x - f).toNat ≠ 0 ∧ cD r ys (y - g).toNat ≠ 0 := by
  unfold moE
  by_cases h0 : twE f xs x g ys y (rateB r && b) = 0
  · have := tw_iff.1 h0
    rw [Bool.and_eq_true, rateB_iff2] at this
    obtain ⟨hd, hr, hb⟩ := this
    simp only [h0, true_and]
    split
    · rename_i h1
      constructor
      · intro h; omega
      · rintro ⟨_, _, _, a, b⟩; omega
    · rename_i h1
      exact ⟨fun _ => ⟨hd, hr, hb, by omega, by omega⟩, fun _ => rfl⟩
  · rw [if_neg (fun h => h0 h.1)]
    constructor
    · intro h; exact absurd h h0
    · rintro ⟨hd, hr, hb, _⟩
      exact tw_iff.2 ⟨hd, by rw [Bool.and_eq_true, rateB_iff2]; exact ⟨hr, hb⟩⟩

end

/-! ### fractions -/

theorem frac_mul (A B G : Int) (hA : 0 ≤ A) (hB : 1 ≤ B) (hG : 1 ≤ G) : A * G / gcdI (A * G) (B * G) = A / gcdI A B ∧ B * G / gcdI (A * G) (B * G) = B / gcdI A B := by
  obtain ⟨a, rfl⟩ := Int.eq_ofNat_of_zero_le hA
  obtain ⟨b, rfl⟩ := Int.eq_ofNat_of_zero_le (show 0 ≤ B by omega)
  obtain ⟨c, rfl⟩ := Int.eq_ofNat_of_zero_le (show 0 ≤ G by omega)
  have e1 : gcdI ((a : Int) * c) ((b : Int) * c) = ((Nat.gcd a b * c : Nat) : Int) := by
    unfold gcdI
    rw [← Int.natCast_mul, ← Int.natCast_mul, Int.toNat_natCast, Int.toNat_natCast, Nat.gcd_mul_right]
  have e2 : gcdI (a : Int) (b : Int) = ((Nat.gcd a b : Nat) : Int) := by unfold gcdI; simp
  rw [e1, e2, ← Int.natCast_mul, ← Int.natCast_mul, ← Int.natCast_ediv, ← Int.natCast_ediv, ← Int.natCast_ediv, ← Int.natCast_ediv]
  rw [Nat.mul_div_mul_right _ _ (by omega), Nat.mul_div_mul_right _ _ (by omega)]
  exact ⟨rfl, rfl⟩

theorem low_parts (A B : Int) (hA : 0 ≤ A) (hB : 1 ≤ B) : A / B * (B / gcdI (A % B) B) + A % B / gcdI (A % B) B = A / gcdI A B ∧ B / gcdI (A % B) B = B / gcdI A B := by
  have e : gcdI (A % B) B = gcdI A B := by
    have := gcdI_step A B hA (by omega)
    rw [← this]
    unfold gcdI
    rw [Nat.gcd_comm]
  rw [e]
  refine ⟨?_, rfl⟩
  have hg := gcdI_pos A B hA hB
  obtain ⟨G, hG⟩ : ∃ y_, gcdI A B = y_ := ⟨_, rfl⟩
  have d1 : G ∣ A := by
    rw [← hG]
    obtain ⟨a, rfl⟩ := Int.eq_ofNat_of_zero_le hA
    obtain ⟨b, rfl⟩ := Int.eq_ofNat_of_zero_le (show 0 ≤ B by omega)
    unfold gcdI
    rw [Int.toNat_natCast, Int.toNat_natCast]
    exact Int.natCast_dvd_natCast.2 (Nat.gcd_dvd_left _ _)
  have d2 : G ∣ B := by
    rw [← hG]
    obtain ⟨a, rfl⟩ := Int.eq_ofNat_of_zero_le hA
    obtain ⟨b, rfl⟩ := Int.eq_ofNat_of_zero_le (show 0 ≤ B by omega)
    unfold gcdI
    rw [Int.toNat_natCast, Int.toNat_natCast]
    exact Int.natCast_dvd_natCast.2 (Nat.gcd_dvd_right _ _)
  rw [hG] at hg ⊢
  obtain ⟨b, rfl⟩ := d2
  have h1 := Int.mul_ediv_add_emod A (G * b)
  obtain ⟨q, hq⟩ : ∃ y_, A / (G * b) = y_ := ⟨_, rfl⟩
  obtain ⟨m, hm⟩ : ∃ y_, A % (G * b) = y_ := ⟨_, rfl⟩
  rw [hq, hm] at h1 ⊢
  rw [Int.mul_ediv_cancel_left _ (show G ≠ 0 by omega)]
  have e4 : G * b * q = q * b * G := by rw [Int.mul_comm G b, Int.mul_assoc, Int.mul_comm G q, ← Int.mul_assoc, Int.mul_comm b q]
  have e3 : A = q * b * G + m := by rw [← h1, e4]
  rw [e3, Int.add_comm (q * b * G) m, Int.add_mul_ediv_right _ _ (show G ≠ 0 by omega), Int.add_comm]

/-- a block of plain cells -/
def Bx (w : World) (B : Nat) (vs : List Value) : Prop := ∃ T, w.heap[B]? = some (.cells vs.toArray T (0, 0))

theorem Bx.two {w : World} {B : Nat} {x y : Value} (h : Bx w B [x, y]) : w.cell? ⟨B, 0, none⟩ = some x ∧ w.cell? ⟨B, 1, none⟩ = some y := by
  obtain ⟨T, h⟩ := h
  simp [World.cell?, h]

theorem Bx.four {w : World} {B : Nat} {x y z u : Value} (h : Bx w B [x, y, z, u]) : w.cell? ⟨B, 0, none⟩ = some x ∧ w.cell? ⟨B, 1, none⟩ = some y ∧ w.cell? ⟨B, 2, none⟩ = some z ∧ w.cell? ⟨B, 3, none⟩ = some u := by
  obtain ⟨T, h⟩ := h
  simp [World.cell?, h]

theorem Bx.free {w : World} {B : Nat} {vs : List Value} (h : Bx w B vs) (i : Nat) : w.frozen? ⟨B, i, none⟩ = false := by
  obtain ⟨T, h⟩ := h
  simp [World.frozen?, h]

theorem Bx.lt {w : World} {B : Nat} {vs : List Value} (h : Bx w B vs) : B < w.heap.size := by
  obtain ⟨T, h⟩ := h
  by_cases hb : B < w.heap.size
  · exact hb
  · have : w.heap[B]? = none := by simp; omega
    rw [this] at h; cases h

theorem Bx.same {w w' : World} {B : Nat} {vs : List Value} (h : Bx w B vs) (hb : w'.heap[B]? = w.heap[B]?) : Bx w' B vs := by
  obtain ⟨T, h⟩ := h
  exact ⟨T, by rw [hb, h]⟩

theorem Bx.on {w w' : World} {B : Nat} {vs : List Value} (h : Bx w B vs) (hb : Below w.heap.size w w') : Bx w' B vs := h.same (hb.block _ h.lt)

theorem Bx.new (w : World) (vs : List Value) (T : TypeId) : Bx (w.alloc (.cells vs.toArray T)) w.heap.size vs := ⟨T, heap_alloc_new _ _⟩

/-- the boxes of two tables -/
structure K2 (w : World) (f : Int) (sa : Value) (g : Int) (sb : Value) (W : World) : Prop where
  t0 : W.cell? ⟨w.heap.size, 0, none⟩ = some (.int .i64 f)
  t1 : W.cell? ⟨w.heap.size, 1, none⟩ = some sa
  u0 : W.cell? ⟨w.heap.size + 1, 0, none⟩ = some (.int .i64 g)
  u1 : W.cell? ⟨w.heap.size + 1, 1, none⟩ = some sb
  low : Below w.heap.size w W

theorem K2.on {w : World} {f : Int} {sa : Value} {g : Int} {sb : Value} {W W' : World} (h : K2 w f sa g sb W) (hb : Below W.heap.size W W') : K2 w f sa g sb W' :=
  ⟨keep2 hb h.t0, keep2 hb h.t1, keep2 hb h.u0, keep2 hb h.u1, h.low.trans (hb.mono h.low.size)⟩

theorem K2.new (w : World) (f : Int) (sa : Value) (g : Int) (sb : Value) (T U : TypeId) : K2 w f sa g sb ((w.alloc (.cells #[.int .i64 f, sa] T)).alloc (.cells #[.int .i64 g, sb] U)) := by
  have h1 := Bx.new w [.int .i64 f, sa] T
  have h2 := Bx.new (w.alloc (.cells #[.int .i64 f, sa] T)) [.int .i64 g, sb] U
  have h3 := h1.on (box_b (w.alloc (.cells #[.int .i64 f, sa] T)) (.cells #[.int .i64 g, sb] U))
  rw [World.size_alloc] at h2
  exact ⟨h3.two.1, h3.two.2, h2.two.1, h2.two.2, (box_b _ _).alloc (by simp) _⟩

theorem minus_any (a b c d : Int) (w : World) (h1 : -4000000000000000000 ≤ a * d) (h2 : a * d ≤ 4000000000000000000) (h3 : -4000000000000000000 ≤ c * b) (h4 : c * b ≤ 4000000000000000000) (h5 : -9000000000000000000 ≤ b * d) (h6 : b * d ≤ 9000000000000000000) :
    Calls Tryz.prog 24 #[.agg #[.int .i64 a, .int .i64 b], .agg #[.int .i64 c, .int .i64 d]] w fun e w' => e = .returned (.agg #[.int .i64 (a * d - c * b), .int .i64 (b * d)]) ∧ Below w.heap.size w w' := by
  go_enter Tryz.func24, Tryz.ntmps24
  go_wp2_with fail
  refine bodyPost_ret (v := .agg #[.int .i64 (a * d - c * b), .int .i64 (b * d)]) (by simp [results, Tryz.results24, go_sem]) rfl ⟨rfl, ?_⟩
  exact ((box_b _ _).alloc (by simp) _).alloc (by simp; omega) _

theorem lowest_any (a b : Int) (w : World) (a0 : 0 ≤ a) (a1 : a ≤ 1000000000000000) (b0 : 1 ≤ b) (b1 : b ≤ 1000000000000) :
    Calls Tryz.prog 25 #[.agg #[.int .i64 a, .int .i64 b]] w fun e w' => e = .returned (.tuple #[.int .i64 (a / gcdI a b), .int .i64 (b / gcdI a b)]) ∧ Below w.heap.size w w' := by
  obtain ⟨p1, p2⟩ := low_parts a b a0 b0
  have m0 := Int.emod_nonneg a (show b ≠ 0 by omega)
  have m1 := Int.emod_lt_of_pos a (show 0 < b by omega)
  have d0 := Int.ediv_nonneg a0 (show 0 ≤ b by omega)
  have hm := Int.mul_ediv_add_emod a b
  have g1 := gcdI_pos (a % b) b m0 b0
  obtain ⟨n0, n1⟩ := div_in (a % b) (gcdI (a % b) b) b m0 (by omega) g1
  obtain ⟨e0, e1⟩ := div_in b (gcdI (a % b) b) b (by omega) (by omega) g1
  have C := Lib.hid (fun W => low_any (a % b) b W m0 (by omega) b0 b1)
  have t1 : a.tmod b = a % b := Int.tmod_eq_emod_of_nonneg a0
  have t2 : a.tdiv b = a / b := Int.tdiv_eq_ediv_of_nonneg a0
  obtain ⟨M, hM⟩ : ∃ y_, a % b = y_ := ⟨_, rfl⟩
  obtain ⟨Q, hQ⟩ : ∃ y_, a / b = y_ := ⟨_, rfl⟩
  rw [hM] at p1 p2 m0 m1 hm g1 n0 n1 e0 e1 C t1
  rw [hQ] at p1 d0 hm t2
  obtain ⟨N, hN⟩ : ∃ y_, M / gcdI M b = y_ := ⟨_, rfl⟩
  obtain ⟨D, hD⟩ : ∃ y_, b / gcdI M b = y_ := ⟨_, rfl⟩
  rw [hN] at p1 n0 n1 C
  rw [hD] at p1 p2 e0 e1 C
  have h1 : 0 ≤ Q * D := Int.mul_nonneg d0 e0
  have h2 : Q * D ≤ Q * b := Int.mul_le_mul_of_nonneg_left e1 d0
  rw [Int.mul_comm b Q] at hm
  have h3 : Q * D ≤ 1000000000000000 := by omega
  have HP1 := Lib.hid p1
  have HP2 := Lib.hid p2
  have q3 : Q ≤ 1000000000000000 := by
    have := Int.mul_le_mul_of_nonneg_left b0 d0
    omega
  have q1 : IntKind.i64.wrap (a.tmod b) = M := by rw [t1]; exact IntWalk.i64_in _ (by omega)
  have q2 : IntKind.i64.wrap (a.tdiv b) = Q := by rw [t2]; exact IntWalk.i64_in _ (by omega)
  have hp : 0 < b := by omega
  clear p1 p2 hN hD g1 h2 hm
  go_enter Tryz.func25, Tryz.ntmps25
  go_wp2_with fail
  go_quiet ((go_at_call 52; exact Calls.quiet_of (C.out _)))
  go_wp2_with fail
  go_ret2
  exact ⟨ret_ii HP1.out HP2.out, below_drewN (box_b _ _) _⟩

theorem has_any (B : Nat) (k c d : Int) (r : Bool) (w : World) (h : Bx w B [.int .i64 c, .int .i64 d]) (hr : decide (c = k ∨ d = k) = r) :
    Calls Tryz.prog 82 #[.int .i64 k, .pointer (some ⟨B, 0, none⟩)] w fun e w' => e = .returned (.bool r) ∧ w = w' := by
  obtain ⟨c0, c1⟩ := h.two
  clear h
  by_cases h1 : c = k
  · subst h1
    have HR : Hid (r = true) := Lib.hid (by rw [← hr]; simp)
    clear hr
    go_enter Tryz.func82, Tryz.ntmps82
    go_wp2_with fail
    go_ret
    exact ⟨ret_bool HR.out.symm, rfl⟩
  · have e1 : (c == k) = false := by simpa using h1
    by_cases h2 : d = k
    · subst h2
      have HR : Hid (r = true) := Lib.hid (by rw [← hr]; simp)
      clear hr h1
      go_enter Tryz.func82, Tryz.ntmps82
      go_wp2_with fail
      go_ret
      exact ⟨ret_bool HR.out.symm, rfl⟩
    · have e2 : (d == k) = false := by simpa using h2
      have HR : Hid (r = false) := Lib.hid (by rw [← hr]; simp [h1, h2])
      clear hr h1 h2
      go_enter Tryz.func82, Tryz.ntmps82
      go_wp2_with fail
      go_ret
      exact ⟨ret_bool HR.out.symm, rfl⟩

set_option maxHeartbeats 2000000 in
theorem first_any (x c d : Int) (w : World) :
    Calls Tryz.prog 64 #[.int .i64 x, .agg #[.int .i64 c, .int .i64 d]] w fun e w' => e = .returned (.int .i64 (feE x c d)) ∧ Below w.heap.size w w' := by
  have hmf : ∀ (fn : Fn) (first cap : Array Value) (w : World), (Instr.makeFunc fn first cap).run Tryz.prog w = .ok (.func fn first cap) w := fun _ _ _ _ => rfl
  have HH : Hid (∀ k r, decide (c = k ∨ d = k) = r → Calls Tryz.prog 82 #[.int .i64 k, .pointer (some ⟨w.heap.size, 0, none⟩)] (w.alloc (.cells #[.int .i64 c, .int .i64 d] 35)) fun e w' => e = .returned (.bool r) ∧ (w.alloc (.cells #[.int .i64 c, .int .i64 d] 35)) = w') :=
    Lib.hid (fun k r hr => has_any w.heap.size k c d r _ (Bx.new w [.int .i64 c, .int .i64 d] 35) hr)
  by_cases h1 : c = 1 ∨ d = 1
  · have HR : Hid (feE x c d = 1) := Lib.hid (by unfold feE; rw [if_pos h1])
    have H1 : Hid (decide (c = 1 ∨ d = 1) = true) := Lib.hid (by simpa using h1)
    clear h1
    go_enter Tryz.func64, Tryz.ntmps64
    go_wp2_with fail
    refine (HH.out _ _ H1.out).mono ?_
    rintro e w' ⟨rfl, rfl⟩
    go_wp2_with fail
    go_ret
    exact ⟨ret_int HR.out.symm, box_b _ _⟩
  have H1 : Hid (decide (c = 1 ∨ d = 1) = false) := Lib.hid (by simpa using h1)
  by_cases h2 : c = 2 ∨ d = 2
  · have HR : Hid (feE x c d = 2) := Lib.hid (by unfold feE; rw [if_neg h1, if_pos (by omega)])
    have H2 : Hid (decide (c = 2 ∨ d = 2) = true) := Lib.hid (by simpa using h2)
    clear h1 h2
    go_enter Tryz.func64, Tryz.ntmps64
    go_wp2_with fail
    refine (HH.out _ _ H1.out).mono ?_
    rintro e w' ⟨rfl, rfl⟩
    go_wp2_with fail
    refine (HH.out _ _ H2.out).mono ?_
    rintro e w' ⟨rfl, rfl⟩
    go_wp2_with fail
    go_ret
    exact ⟨ret_int HR.out.symm, box_b _ _⟩
  have H2 : Hid (decide (c = 2 ∨ d = 2) = false) := Lib.hid (by simpa using h2)
  by_cases h3 : 100 < x
  · have HR : Hid (feE x c d = 2) := Lib.hid (by unfold feE; rw [if_neg h1, if_pos (by omega)])
    clear h1 h2
    go_enter Tryz.func64, Tryz.ntmps64
    go_wp2_with fail
    refine (HH.out _ _ H1.out).mono ?_
    rintro e w' ⟨rfl, rfl⟩
    go_wp2_with fail
    refine (HH.out _ _ H2.out).mono ?_
    rintro e w' ⟨rfl, rfl⟩
    go_wp2_with fail
    go_ret
    exact ⟨ret_int HR.out.symm, box_b _ _⟩
  by_cases h5 : c = 5 ∨ d = 5
  · have HR : Hid (feE x c d = 5) := Lib.hid (by unfold feE; rw [if_neg h1, if_neg (by omega), if_pos h5])
    have H5 : Hid (decide (c = 5 ∨ d = 5) = true) := Lib.hid (by simpa using h5)
    clear h1 h2 h5
    go_enter Tryz.func64, Tryz.ntmps64
    go_wp2_with fail
    refine (HH.out _ _ H1.out).mono ?_
    rintro e w' ⟨rfl, rfl⟩
    go_wp2_with fail
    refine (HH.out _ _ H2.out).mono ?_
    rintro e w' ⟨rfl, rfl⟩
    go_wp2_with fail
    refine (HH.out _ _ H5.out).mono ?_
    rintro e w' ⟨rfl, rfl⟩
    go_wp2_with fail
    go_ret
    exact ⟨ret_int HR.out.symm, box_b _ _⟩
  · have HR : Hid (feE x c d = 0) := Lib.hid (by unfold feE; rw [if_neg h1, if_neg (by omega), if_neg h5])
    have H5 : Hid (decide (c = 5 ∨ d = 5) = false) := Lib.hid (by simpa using h5)
    clear h1 h2 h5
    go_enter Tryz.func64, Tryz.ntmps64
    go_wp2_with fail
    refine (HH.out _ _ H1.out).mono ?_
    rintro e w' ⟨rfl, rfl⟩
    go_wp2_with fail
    refine (HH.out _ _ H2.out).mono ?_
    rintro e w' ⟨rfl, rfl⟩
    go_wp2_with fail
    refine (HH.out _ _ H5.out).mono ?_
    rintro e w' ⟨rfl, rfl⟩
    go_wp2_with fail
    go_ret
    exact ⟨ret_int HR.out.symm, box_b _ _⟩

set_option maxRecDepth 100000

set_option maxHeartbeats 2000000 in
theorem twcode_any (f : Int) (xs : List Int) (a : Option Addr) (l c : Nat) (x : Int) (g : Int) (ys : List Int) (b : Option Addr) (m d : Nat) (y : Int) (q : Bool) (w : World) (h : Ints w a l xs) (k : Ints w b m ys) :
    Calls Tryz.prog 26 #[.agg #[.int .i64 f, .slice a l c], .int .i64 x, .agg #[.int .i64 g, .slice b m d], .int .i64 y, .bool q] w fun e w' => e = .returned (.int .i64 (twE f xs x g ys y q)) ∧ Below w.heap.size w w' := by
  have H := Lib.hid h
  have K := Lib.hid k
  clear h k
  have HK : Hid (K2 w f (.slice a l c) g (.slice b m d) ((w.alloc (.cells #[.int .i64 f, .slice a l c] 26)).alloc (.cells #[.int .i64 g, .slice b m d] 26))) := Lib.hid (K2.new _ _ _ _ _ _ _)
  by_cases t1 : ltB f xs = true
  case neg =>
    have t1f : ltB f xs = false := by simpa using t1
    have HR : Hid (twE f xs x g ys y q = 1) := Lib.hid (by unfold twE; rw [if_pos (fun h => t1 h.1)])
    go_enter Tryz.func26, Tryz.ntmps26
    go_wp2_with (go_at_call 54; refine (in_any _ _ _ _).mono ?_; rintro e w' ⟨rfl, rfl⟩)
    with_reducible refine (isL_spec f xs _ _ _ _ (H.out.on HK.out.low)).mono ?_
    rintro e w1 ⟨rfl, hb⟩
    have HK := Lib.hid (HK.out.on hb)
    obtain ⟨k0, k1, k2, k3, _⟩ := HK.out
    clear hb
    go_wp2_with (go_at_call 54; refine (in_any _ _ _ _).mono ?_; rintro e w' ⟨rfl, rfl⟩)
    go_ret
    exact ⟨ret_int HR.out.symm, HK.out.low⟩
  by_cases t2 : ltB g ys = true
  case neg =>
    have t2f : ltB g ys = false := by simpa using t2
    have HR : Hid (twE f xs x g ys y q = 1) := Lib.hid (by unfold twE; rw [if_pos (fun h => t2 h.2)])
    go_enter Tryz.func26, Tryz.ntmps26
    go_wp2_with (go_at_call 54; refine (in_any _ _ _ _).mono ?_; rintro e w' ⟨rfl, rfl⟩)
    with_reducible refine (isL_spec f xs _ _ _ _ (H.out.on HK.out.low)).mono ?_
    rintro e w1 ⟨rfl, hb⟩
    have HK := Lib.hid (HK.out.on hb)
    obtain ⟨k0, k1, k2, k3, _⟩ := HK.out
    clear hb
    go_wp2_with (go_at_call 54; refine (in_any _ _ _ _).mono ?_; rintro e w' ⟨rfl, rfl⟩)
    with_reducible refine (isL_spec g ys _ _ _ _ (K.out.on HK.out.low)).mono ?_
    rintro e w1 ⟨rfl, hb⟩
    have HK := Lib.hid (HK.out.on hb)
    clear k0 k1 k2 k3
    obtain ⟨k0, k1, k2, k3, _⟩ := HK.out
    clear hb
    go_wp2_with (go_at_call 54; refine (in_any _ _ _ _).mono ?_; rintro e w' ⟨rfl, rfl⟩)
    go_ret
    exact ⟨ret_int HR.out.symm, HK.out.low⟩
  by_cases v1 : inB x f 100 = true
  case neg =>
    have v1f : inB x f 100 = false := by simpa using v1
    have HR : Hid (twE f xs x g ys y q = 2) := Lib.hid (by unfold twE; rw [if_neg (fun h => h ⟨t1, t2⟩), if_pos (fun h => v1 h.1)])
    go_enter Tryz.func26, Tryz.ntmps26
    go_wp2_with (go_at_call 54; refine (in_any _ _ _ _).mono ?_; rintro e w' ⟨rfl, rfl⟩)
    with_reducible refine (isL_spec f xs _ _ _ _ (H.out.on HK.out.low)).mono ?_
    rintro e w1 ⟨rfl, hb⟩
    have HK := Lib.hid (HK.out.on hb)
    obtain ⟨k0, k1, k2, k3, _⟩ := HK.out
    clear hb
    go_wp2_with (go_at_call 54; refine (in_any _ _ _ _).mono ?_; rintro e w' ⟨rfl, rfl⟩)
    with_reducible refine (isL_spec g ys _ _ _ _ (K.out.on HK.out.low)).mono ?_
    rintro e w1 ⟨rfl, hb⟩
    have HK := Lib.hid (HK.out.on hb)
    clear k0 k1 k2 k3
    obtain ⟨k0, k1, k2, k3, _⟩ := HK.out
    clear hb
    go_wp2_with (go_at_call 54; refine (in_any _ _ _ _).mono ?_; rintro e w' ⟨rfl, rfl⟩)
    go_ret
    exact ⟨ret_int HR.out.symm, HK.out.low⟩
  by_cases v2 : inB y g 150 = true
  case neg =>
    have v2f : inB y g 150 = false := by simpa using v2
    have HR : Hid (twE f xs x g ys y q = 2) := Lib.hid (by unfold twE; rw [if_neg (fun h => h ⟨t1, t2⟩), if_pos (fun h => v2 h.2.1)])
    go_enter Tryz.func26, Tryz.ntmps26
    go_wp2_with (go_at_call 54; refine (in_any _ _ _ _).mono ?_; rintro e w' ⟨rfl, rfl⟩)
    with_reducible refine (isL_spec f xs _ _ _ _ (H.out.on HK.out.low)).mono ?_
    rintro e w1 ⟨rfl, hb⟩
    have HK := Lib.hid (HK.out.on hb)
    obtain ⟨k0, k1, k2, k3, _⟩ := HK.out
    clear hb
    go_wp2_with (go_at_call 54; refine (in_any _ _ _ _).mono ?_; rintro e w' ⟨rfl, rfl⟩)
    with_reducible refine (isL_spec g ys _ _ _ _ (K.out.on HK.out.low)).mono ?_
    rintro e w1 ⟨rfl, hb⟩
    have HK := Lib.hid (HK.out.on hb)
    clear k0 k1 k2 k3
    obtain ⟨k0, k1, k2, k3, _⟩ := HK.out
    clear hb
    go_wp2_with (go_at_call 54; refine (in_any _ _ _ _).mono ?_; rintro e w' ⟨rfl, rfl⟩)
    go_ret
    exact ⟨ret_int HR.out.symm, HK.out.low⟩
  by_cases v3 : q = true
  case neg =>
    have v3f : q = false := by simpa using v3
    subst v3f
    have HR : Hid (twE f xs x g ys y false = 2) := Lib.hid (by unfold twE; rw [if_neg (fun h => h ⟨t1, t2⟩), if_pos (fun h => v3 h.2.2)])
    go_enter Tryz.func26, Tryz.ntmps26
    go_wp2_with (go_at_call 54; refine (in_any _ _ _ _).mono ?_; rintro e w' ⟨rfl, rfl⟩)
    with_reducible refine (isL_spec f xs _ _ _ _ (H.out.on HK.out.low)).mono ?_
    rintro e w1 ⟨rfl, hb⟩
    have HK := Lib.hid (HK.out.on hb)
    obtain ⟨k0, k1, k2, k3, _⟩ := HK.out
    clear hb
    go_wp2_with (go_at_call 54; refine (in_any _ _ _ _).mono ?_; rintro e w' ⟨rfl, rfl⟩)
    with_reducible refine (isL_spec g ys _ _ _ _ (K.out.on HK.out.low)).mono ?_
    rintro e w1 ⟨rfl, hb⟩
    have HK := Lib.hid (HK.out.on hb)
    clear k0 k1 k2 k3
    obtain ⟨k0, k1, k2, k3, _⟩ := HK.out
    clear hb
    go_wp2_with (go_at_call 54; refine (in_any _ _ _ _).mono ?_; rintro e w' ⟨rfl, rfl⟩)
    go_ret
    exact ⟨ret_int HR.out.symm, HK.out.low⟩
  subst v3
  obtain ⟨f0, f1⟩ := ((ltB_iff _ _).1 t1).1
  obtain ⟨g0, g1⟩ := ((ltB_iff _ _).1 t2).1
  obtain ⟨x0, x1⟩ := (inB_iff _ _ _).1 v1
  obtain ⟨y0, y1⟩ := (inB_iff _ _ _).1 v2
  have C1 : Hid (∀ W, Below w.heap.size w W → Calls Tryz.prog 39 #[.agg #[.int .i64 f, .slice a l c], .int .i64 x] W fun e w' => e = .returned (.int .i64 (lvs f xs x)) ∧ Below W.heap.size W w') :=
    Lib.hid (fun W hW => lives_any f xs a l c x W (H.out.on hW) f0 f1 x0 (by omega))
  have C2 : Hid (∀ W, Below w.heap.size w W → Calls Tryz.prog 39 #[.agg #[.int .i64 g, .slice b m d], .int .i64 y] W fun e w' => e = .returned (.int .i64 (lvs g ys y)) ∧ Below W.heap.size W w') :=
    Lib.hid (fun W hW => lives_any g ys b m d y W (K.out.on hW) g0 g1 y0 (by omega))
  by_cases z1 : lvs f xs x = 0
  · have HR0 : Hid (twE f xs x g ys y true = 5) := Lib.hid (by unfold twE; rw [if_neg (fun h => h ⟨t1, t2⟩), if_neg (fun h => h ⟨v1, v2, rfl⟩), if_pos (.inl z1)])
    rw [z1] at C1
    have HR : Hid (twE f xs x g ys y true = 5) := Lib.hid HR0.out
    go_enter Tryz.func26, Tryz.ntmps26
    go_wp2_with (go_at_call 54; refine (in_any _ _ _ _).mono ?_; rintro e w' ⟨rfl, rfl⟩)
    with_reducible refine (isL_spec f xs _ _ _ _ (H.out.on HK.out.low)).mono ?_
    rintro e w1 ⟨rfl, hb⟩
    have HK := Lib.hid (HK.out.on hb)
    obtain ⟨k0, k1, k2, k3, _⟩ := HK.out
    clear hb
    go_wp2_with (go_at_call 54; refine (in_any _ _ _ _).mono ?_; rintro e w' ⟨rfl, rfl⟩)
    with_reducible refine (isL_spec g ys _ _ _ _ (K.out.on HK.out.low)).mono ?_
    rintro e w1 ⟨rfl, hb⟩
    have HK := Lib.hid (HK.out.on hb)
    clear k0 k1 k2 k3
    obtain ⟨k0, k1, k2, k3, _⟩ := HK.out
    clear hb
    go_wp2_with (go_at_call 54; refine (in_any _ _ _ _).mono ?_; rintro e w' ⟨rfl, rfl⟩)
    with_reducible refine (C1.out _ HK.out.low).mono ?_
    rintro e w1 ⟨rfl, hb⟩
    have HK := Lib.hid (HK.out.on hb)
    clear k0 k1 k2 k3
    obtain ⟨k0, k1, k2, k3, _⟩ := HK.out
    clear hb
    go_wp2_with (go_at_call 54; refine (in_any _ _ _ _).mono ?_; rintro e w' ⟨rfl, rfl⟩)
    go_ret
    exact ⟨ret_int HR.out.symm, HK.out.low⟩
  obtain ⟨u, hu⟩ : ∃ y_, lvs f xs x = y_ := ⟨_, rfl⟩
  have z1f : (u == 0) = false := by rw [← hu]; simpa using z1
  by_cases z2 : lvs g ys y = 0
  · have HR0 : Hid (twE f xs x g ys y true = 5) := Lib.hid (by unfold twE; rw [if_neg (fun h => h ⟨t1, t2⟩), if_neg (fun h => h ⟨v1, v2, rfl⟩), if_pos (.inr z2)])
    rw [z2] at C2
    rw [hu] at C1
    clear hu z1
    have HR : Hid (twE f xs x g ys y true = 5) := Lib.hid HR0.out
    go_enter Tryz.func26, Tryz.ntmps26
    go_wp2_with (go_at_call 54; refine (in_any _ _ _ _).mono ?_; rintro e w' ⟨rfl, rfl⟩)
    with_reducible refine (isL_spec f xs _ _ _ _ (H.out.on HK.out.low)).mono ?_
    rintro e w1 ⟨rfl, hb⟩
    have HK := Lib.hid (HK.out.on hb)
    obtain ⟨k0, k1, k2, k3, _⟩ := HK.out
    clear hb
    go_wp2_with (go_at_call 54; refine (in_any _ _ _ _).mono ?_; rintro e w' ⟨rfl, rfl⟩)
    with_reducible refine (isL_spec g ys _ _ _ _ (K.out.on HK.out.low)).mono ?_
    rintro e w1 ⟨rfl, hb⟩
    have HK := Lib.hid (HK.out.on hb)
    clear k0 k1 k2 k3
    obtain ⟨k0, k1, k2, k3, _⟩ := HK.out
    clear hb
    go_wp2_with (go_at_call 54; refine (in_any _ _ _ _).mono ?_; rintro e w' ⟨rfl, rfl⟩)
    with_reducible refine (C1.out _ HK.out.low).mono ?_
    rintro e w1 ⟨rfl, hb⟩
    have HK := Lib.hid (HK.out.on hb)
    clear k0 k1 k2 k3
    obtain ⟨k0, k1, k2, k3, _⟩ := HK.out
    clear hb
    go_wp2_with (go_at_call 54; refine (in_any _ _ _ _).mono ?_; rintro e w' ⟨rfl, rfl⟩)
    with_reducible refine (C2.out _ HK.out.low).mono ?_
    rintro e w1 ⟨rfl, hb⟩
    have HK := Lib.hid (HK.out.on hb)
    clear k0 k1 k2 k3
    obtain ⟨k0, k1, k2, k3, _⟩ := HK.out
    clear hb
    go_wp2_with (go_at_call 54; refine (in_any _ _ _ _).mono ?_; rintro e w' ⟨rfl, rfl⟩)
    go_ret
    exact ⟨ret_int HR.out.symm, HK.out.low⟩
  · have HR0 : Hid (twE f xs x g ys y true = 0) := Lib.hid (by unfold twE; rw [if_neg (fun h => h ⟨t1, t2⟩), if_neg (fun h => h ⟨v1, v2, rfl⟩), if_neg (fun h => h.elim z1 z2)])
    obtain ⟨v, hv⟩ : ∃ y_, lvs g ys y = y_ := ⟨_, rfl⟩
    have z2f : (v == 0) = false := by rw [← hv]; simpa using z2
    rw [hv] at C2
    rw [hu] at C1
    clear hu hv z1 z2
    have HR : Hid (twE f xs x g ys y true = 0) := Lib.hid HR0.out
    go_enter Tryz.func26, Tryz.ntmps26
    go_wp2_with (go_at_call 54; refine (in_any _ _ _ _).mono ?_; rintro e w' ⟨rfl, rfl⟩)
    with_reducible refine (isL_spec f xs _ _ _ _ (H.out.on HK.out.low)).mono ?_
    rintro e w1 ⟨rfl, hb⟩
    have HK := Lib.hid (HK.out.on hb)
    obtain ⟨k0, k1, k2, k3, _⟩ := HK.out
    clear hb
    go_wp2_with (go_at_call 54; refine (in_any _ _ _ _).mono ?_; rintro e w' ⟨rfl, rfl⟩)
    with_reducible refine (isL_spec g ys _ _ _ _ (K.out.on HK.out.low)).mono ?_
    rintro e w1 ⟨rfl, hb⟩
    have HK := Lib.hid (HK.out.on hb)
    clear k0 k1 k2 k3
    obtain ⟨k0, k1, k2, k3, _⟩ := HK.out
    clear hb
    go_wp2_with (go_at_call 54; refine (in_any _ _ _ _).mono ?_; rintro e w' ⟨rfl, rfl⟩)
    with_reducible refine (C1.out _ HK.out.low).mono ?_
    rintro e w1 ⟨rfl, hb⟩
    have HK := Lib.hid (HK.out.on hb)
    clear k0 k1 k2 k3
    obtain ⟨k0, k1, k2, k3, _⟩ := HK.out
    clear hb
    go_wp2_with (go_at_call 54; refine (in_any _ _ _ _).mono ?_; rintro e w' ⟨rfl, rfl⟩)
    with_reducible refine (C2.out _ HK.out.low).mono ?_
    rintro e w1 ⟨rfl, hb⟩
    have HK := Lib.hid (HK.out.on hb)
    clear k0 k1 k2 k3
    obtain ⟨k0, k1, k2, k3, _⟩ := HK.out
    clear hb
    go_wp2_with (go_at_call 54; refine (in_any _ _ _ _).mono ?_; rintro e w' ⟨rfl, rfl⟩)
    go_ret
    exact ⟨ret_int HR.out.symm, HK.out.low⟩

end Go.Proofs.YtlcmgihaelgclaaGreat

/- Merged: MdS, Ann, Comm, ColA. -/
import Derived.Test.YtmcagpcldjopjaaAn1
import Derived.Test.YtmcagpcldjopjaaAn4
import Derived.Test.YtmcagpcldjopjaaAn9

/- A product divided exactly: the model's way, bit by bit. -/
namespace Go.Proofs.Ytmcagpcldjopjaa
open Go.ChangeShapes Go.WideShapes Go.ChangeAt Go.RowKit
set_option linter.unusedVariables false
set_option maxRecDepth 100000

def mdQ (a b c : Int) : Int := if a * b / c ≤ 1000000000000000000 then a * b / c else 2000000000000000000
def mdR (a b c : Int) : Int := if a * b / c ≤ 1000000000000000000 then a * b % c else 0

/-- one more bit of the first factor -/
theorem md_step (A D d b c q r B1 B2 U1 U2 : Int) (hI : A * b = q * c + r) (hD : D = 2 * A + d) (hB : c * B1 + B2 = b) (hU : c * U1 + U2 = 2 * r + d * B2) :
    D * b = (2 * q + d * B1 + U1) * c + U2 := by
  have e1 : D * b = 2 * (A * b) + d * b := by rw [hD, Int.add_mul, Int.mul_assoc]
  have e2 : d * b = d * (c * B1) + d * B2 := by rw [← Int.mul_add, hB]
  have e3 : (2 * q + d * B1 + U1) * c = 2 * (q * c) + d * (c * B1) + c * U1 := by
    rw [Int.add_mul, Int.add_mul, Int.mul_assoc, Int.mul_assoc, Int.mul_comm B1 c, Int.mul_comm U1 c]
  rw [e1, e2, e3, hI]
  omega

theorem md_uniq (p c q r : Int) (h : p = q * c + r) (r0 : 0 ≤ r) (r1 : r < c) : p / c = q ∧ p % c = r := by
  subst h
  constructor
  · rw [Int.add_comm, Int.add_mul_ediv_right _ _ (by omega), Int.ediv_eq_zero_of_lt r0 r1]; omega
  · rw [Int.add_comm, Int.add_mul_emod_self_right, Int.emod_eq_of_lt r0 r1]

theorem md_small (a b c : Int) (h : a * b / c ≤ 1000000000000000000) : mdQ a b c = a * b / c ∧ mdR a b c = a * b % c := by simp [mdQ, mdR, h]

theorem md_large (a b c : Int) (h : 1000000000000000000 < a * b / c) : mdQ a b c = 2000000000000000000 ∧ mdR a b c = 0 := by
  have h' : ¬ a * b / c ≤ 1000000000000000000 := by omega
  simp only [mdQ, mdR, if_neg h', and_self]

/-- a quotient that is too great already stays so -/
theorem md_over (a b c D q r : Int) (h : D * b = q * c + r) (hD : D ≤ a) (b0 : 0 ≤ b) (c0 : 1 ≤ c) (r0 : 0 ≤ r) (hq : 1000000000000000000 < q) : 1000000000000000000 < a * b / c := by
  have h1 : D * b ≤ a * b := Int.mul_le_mul_of_nonneg_right hD b0
  have h2 : q ≤ a * b / c := Int.le_ediv_of_mul_le (by omega) (by omega)
  omega

theorem div_bit (a : Int) (t : Nat) (a0 : 0 ≤ a) : a / 2 ^ t = 2 * (a / 2 ^ (t + 1)) + a / 2 ^ t % 2 := by
  have h : a / 2 ^ (t + 1) = a / 2 ^ t / 2 := by
    rw [Int.pow_succ, Int.ediv_ediv_of_nonneg]
    exact Int.pow_nonneg (by omega)
  rw [h]; omega

theorem div_le_self' (a : Int) (t : Nat) (a0 : 0 ≤ a) : 0 ≤ a / 2 ^ t ∧ a / 2 ^ t ≤ a :=
  ⟨Int.ediv_nonneg a0 (Int.pow_nonneg (by omega)), Int.ediv_le_self _ a0⟩

set_option maxHeartbeats 1000000 in
theorem sdiv_any (a b c : Int) (w : World) (a0 : 0 ≤ a) (a1 : a ≤ 1000000000000) (b0 : 0 ≤ b) (b1 : b ≤ 1000000000000000000) (c0 : 1 ≤ c) (c1 : c ≤ 1000000000000000000) :
    Calls Try.prog 75 #[.int .i64 a, .int .i64 b, .int .i64 c] w fun e w' => e = .returned (.tuple #[.int .i64 (mdQ a b c), .int .i64 (mdR a b c)]) ∧ w = w' := by
  have H0 : Hid (a / 2 ^ 42 * b = 0 * c + 0) := Lib.hid (by rw [Int.ediv_eq_zero_of_lt a0 (by omega)]; simp)
  go_enter Try.func75, Try.ntmps75
  go_wp2_with fail
  go_loop [8, 9, 10] (fun x y i => ∃ (s : Nat) (q r : Int), s ≤ 42 ∧ i = .int .i64 ((s : Int) - 1) ∧ x = .int .i64 q ∧ y = .int .i64 r ∧ 0 ≤ q ∧ q ≤ 1000000000000000000 ∧ 0 ≤ r ∧ r < c ∧ Hid (a / 2 ^ s * b = q * c + r)) (fun _ _ i => (intOf i + 1).toNat)
  case atStart => exact ⟨42, 0, 0, by omega, rfl, rfl, rfl, by omega, by omega, by omega, by omega, H0⟩
  case round =>
    clear H0
    obtain ⟨s, q, r, s1, rfl, rfl, rfl, q0, q1, r0, r1, HI⟩ := hrel
    by_cases hs : 0 < s
    · obtain ⟨t, rfl⟩ : ∃ t, s = t + 1 := ⟨s - 1, by omega⟩
      rw [show ((t + 1 : Nat) : Int) - 1 = (t : Int) by omega]
      have hcz : c ≠ 0 := by omega
      have hbit := div_bit a t a0
      obtain ⟨d0, d1⟩ := div_le_self' a t a0
      obtain ⟨A, hA⟩ : ∃ A, a / 2 ^ (t + 1) = A := ⟨_, rfl⟩
      obtain ⟨D, hD⟩ : ∃ A, a / 2 ^ t = A := ⟨_, rfl⟩
      rw [hA, hD] at hbit
      rw [hA] at HI
      rw [hD] at d0 d1
      obtain ⟨B1, hB1⟩ : ∃ B, b / c = B := ⟨_, rfl⟩
      obtain ⟨B2, hB2⟩ : ∃ B, b % c = B := ⟨_, rfl⟩
      have hB := Int.mul_ediv_add_emod b c
      have hB0 : 0 ≤ B1 := by rw [← hB1]; exact Int.ediv_nonneg b0 (by omega)
      have hB3 : B1 ≤ 1000000000000000000 := by rw [← hB1]; exact Int.le_trans (Int.ediv_le_self _ b0) b1
      have hB4 : 0 ≤ B2 := by rw [← hB2]; exact Int.emod_nonneg _ hcz
      have hB5 : B2 < c := by rw [← hB2]; exact Int.emod_lt_of_pos _ (by omega)
      rw [hB1, hB2] at hB
      have HBB := Lib.hid hB
      have HDD := Lib.hid hbit
      clear hB hbit hA
      have htm : D.tmod 2 = D % 2 := Int.tmod_eq_emod_of_nonneg d0
      by_cases hd : D % 2 = 1
      · obtain ⟨U1, hU1⟩ : ∃ B, (2 * r + B2) / c = B := ⟨_, rfl⟩
        obtain ⟨U2, hU2⟩ : ∃ B, (2 * r + B2) % c = B := ⟨_, rfl⟩
        have hU := Int.mul_ediv_add_emod (2 * r + B2) c
        have hU0 : 0 ≤ U1 := by rw [← hU1]; exact Int.ediv_nonneg (by omega) (by omega)
        have hU3 : U1 ≤ 2 := Int.lt_add_one_iff.1 (by rw [← hU1]; exact Int.ediv_lt_of_lt_mul (by omega) (by omega))
        have hU4 : 0 ≤ U2 := by rw [← hU2]; exact Int.emod_nonneg _ hcz
        have hU5 : U2 < c := by rw [← hU2]; exact Int.emod_lt_of_pos _ (by omega)
        rw [hU1, hU2] at hU
        have HS := Lib.hid (md_step A D 1 b c q r B1 B2 U1 U2 HI.out (by have := HDD.out; omega) HBB.out (by omega))
        clear hU
        by_cases hov : 1000000000000000000 < 2 * q + B1 + U1
        · have HO := Lib.hid (md_over a b c D (2 * q + B1 + U1) U2 (by have := HS.out; rw [Int.one_mul] at this; exact this) d1 b0 c0 hU4 hov)
          go_wp2_with fail
          go_ret2
          obtain ⟨e1, e2⟩ := md_large a b c HO.out
          rw [e1, e2]
          exact ⟨rfl, rfl⟩
        · have HS := Lib.hid (show D * b = (2 * q + B1 + U1) * c + U2 by have := HS.out; rw [Int.one_mul] at this; exact this)
          have HDt := Lib.hid hD
          go_wp2_with fail
          go_round
          case rel => exact ⟨t, _, _, by omega, rfl, rfl, rfl, by omega, by omega, by omega, by omega, Lib.hid (by rw [HDt.out, hU2]; exact HS.out)⟩
          case measure => simp [intOf]
      · have hd2 : D % 2 = 0 := by omega
        obtain ⟨U1, hU1⟩ : ∃ B, (2 * r) / c = B := ⟨_, rfl⟩
        obtain ⟨U2, hU2⟩ : ∃ B, (2 * r) % c = B := ⟨_, rfl⟩
        have hU := Int.mul_ediv_add_emod (2 * r) c
        have hU0 : 0 ≤ U1 := by rw [← hU1]; exact Int.ediv_nonneg (by omega) (by omega)
        have hU3 : U1 ≤ 2 := Int.lt_add_one_iff.1 (by rw [← hU1]; exact Int.ediv_lt_of_lt_mul (by omega) (by omega))
        have hU4 : 0 ≤ U2 := by rw [← hU2]; exact Int.emod_nonneg _ hcz
        have hU5 : U2 < c := by rw [← hU2]; exact Int.emod_lt_of_pos _ (by omega)
        rw [hU1, hU2] at hU
        have HS := Lib.hid (md_step A D 0 b c q r B1 B2 U1 U2 HI.out (by have := HDD.out; omega) HBB.out (by omega))
        clear hU
        have HS := Lib.hid (show D * b = (2 * q + U1) * c + U2 by have := HS.out; rw [Int.zero_mul, Int.add_zero] at this; exact this)
        by_cases hov : 1000000000000000000 < 2 * q + U1
        · have HO := Lib.hid (md_over a b c D (2 * q + U1) U2 HS.out d1 b0 c0 hU4 hov)
          go_wp2_with fail
          go_ret2
          obtain ⟨e1, e2⟩ := md_large a b c HO.out
          rw [e1, e2]
          exact ⟨rfl, rfl⟩
        · have HDt := Lib.hid hD
          go_wp2_with fail
          go_round
          case rel => exact ⟨t, _, _, by omega, rfl, rfl, rfl, by omega, by omega, by omega, by omega, Lib.hid (by rw [HDt.out, hU2]; exact HS.out)⟩
          case measure => simp [intOf]
    · obtain rfl : s = 0 := by omega
      have HE := Lib.hid (md_uniq (a * b) c q r (by have := HI.out; rw [Int.pow_zero, Int.ediv_one] at this; exact this) r0 r1)
      go_wp2_with fail
      go_ret2
      obtain ⟨e1, e2⟩ := HE.out
      obtain ⟨e3, e4⟩ := md_small a b c (by omega)
      rw [e3, e4, e1, e2]
      exact ⟨rfl, rfl⟩

end Go.Proofs.Ytmcagpcldjopjaa

/- Annuities: numbers, and the model's functions. -/
namespace Go.Proofs.Ytmcagpcldjopjaa
open Go.ChangeShapes Go.WideShapes Go.ChangeAt Go.RowKit
set_option linter.unusedVariables false
set_option maxRecDepth 100000

/-- a product divided and rounded up -/
def upV (a b c : Int) : Int := a * b / c + (if 0 < a * b % c then 1 else 0)

theorem LTab.cD_le {f : Int} {xs : List Int} (h : LTab f xs) (r : Int) (r0 : 0 ≤ r) (k : Nat) : cD r xs (k + 1) ≤ cD r xs k :=
  Int.mul_le_mul (h.step k) (disc_le r r0 k) (disc_bd r r0 (k + 1)).1 (h.nonneg k)

theorem LTab.cD_mono {f : Int} {xs : List Int} (h : LTab f xs) (r : Int) (r0 : 0 ≤ r) (k n : Nat) : cD r xs (k + n) ≤ cD r xs k := by
  induction n with
  | zero => exact Int.le_refl _
  | succ n ih => exact Int.le_trans (h.cD_le r r0 (k + n)) ih

theorem LTab.cN_le {f : Int} {xs : List Int} (h : LTab f xs) (r : Int) (r0 : 0 ≤ r) (k : Nat) : cN r xs k ≤ 152 * cD r xs k := by
  have : ∀ n : Nat, fsum (cD r xs) k n ≤ n * cD r xs k := by
    intro n
    induction n with
    | zero => simp [fsum]
    | succ n ih =>
      rw [fsum]
      have := h.cD_mono r r0 k n
      rw [show ((n + 1 : Nat) : Int) * cD r xs k = (n : Int) * cD r xs k + cD r xs k by rw [Int.natCast_add, Int.add_mul]; omega]
      omega
  exact this 152

theorem LTab.cN_mono {f : Int} {xs : List Int} (h : LTab f xs) (r : Int) (r0 : 0 ≤ r) (k n : Nat) : cN r xs (k + n) ≤ cN r xs k := by
  induction n with
  | zero => exact Int.le_refl _
  | succ n ih =>
    have := h.cN_step r (k + n)
    have := (h.cD_bd r r0 (k + n)).1
    rw [show k + (n + 1) = k + n + 1 by omega]
    omega

theorem LTab.cN_ge {f : Int} {xs : List Int} (h : LTab f xs) (r : Int) (r0 : 0 ≤ r) (k : Nat) : cD r xs k ≤ cN r xs k := by
  have := h.cN_step r k
  have := (h.cN_bd r r0 (k + 1)).1
  omega

/-- a part of N, times an amount, over D -/
theorem LTab.quot {f : Int} {xs : List Int} (h : LTab f xs) (r : Int) (r0 : 0 ≤ r) (k : Nat) (u b : Int) (u0 : 0 ≤ u) (u1 : u ≤ cN r xs k) (hd : cD r xs k ≠ 0) (b0 : 0 ≤ b) (b1 : b ≤ 1000000) :
    u ≤ 1000000000000000000 ∧ 1 ≤ cD r xs k ∧ cD r xs k ≤ 1000000000000000000 ∧ b * u / cD r xs k ≤ 152000000 := by
  have e1 := (h.cN_bd r r0 k).2
  have e2 := h.cD_bd r r0 k
  have e3 := h.cN_le r r0 k
  refine ⟨by omega, by omega, by omega, ?_⟩
  have e4 : b * u ≤ b * (152 * cD r xs k) := Int.mul_le_mul_of_nonneg_left (by omega) b0
  have e5 : b * u / cD r xs k ≤ b * (152 * cD r xs k) / cD r xs k := Int.ediv_le_ediv (by omega) e4
  rw [← Int.mul_assoc, Int.mul_ediv_cancel _ hd] at e5
  omega

theorem upV_eq (a b c : Int) (hc : 1 ≤ c) : ∃ q r : Int, a * b / c = q ∧ a * b % c = r ∧ 0 ≤ r ∧ r < c ∧ (r = 0 → upV a b c = q) ∧ (0 < r → upV a b c = q + 1) := by
  refine ⟨_, _, rfl, rfl, Int.emod_nonneg _ (by omega), Int.emod_lt_of_pos _ (by omega), fun h => ?_, fun h => ?_⟩
  · unfold upV; rw [h]; simp
  · unfold upV; rw [if_pos h]

theorem sup_any (a b c : Int) (w : World) (a0 : 0 ≤ a) (a1 : a ≤ 1000000000000) (b0 : 0 ≤ b) (b1 : b ≤ 1000000000000000000) (c0 : 1 ≤ c) (c1 : c ≤ 1000000000000000000) (hq : a * b / c ≤ 100000000000000000) :
    Calls Try.prog 62 #[.int .i64 a, .int .i64 b, .int .i64 c] w fun e w' => e = .returned (.int .i64 (upV a b c)) ∧ w = w' := by
  have HC := Lib.hid (fun W => sdiv_any a b c W a0 a1 b0 b1 c0 c1)
  obtain ⟨e1, e2⟩ := md_small a b c (by omega)
  rw [e1, e2] at HC
  obtain ⟨q, r, hq1, hr1, r0, r1, g1, g2⟩ := upV_eq a b c c0
  have q0 : 0 ≤ q := by rw [← hq1]; exact Int.ediv_nonneg (Int.mul_nonneg a0 b0) (by omega)
  rw [hq1, hr1] at HC
  rw [hq1] at hq
  clear e1 e2 hq1 hr1
  by_cases hz : r = 0
  · have G := Lib.hid (g1 hz)
    subst hz
    clear g1 g2
    go_enter Try.func62, Try.ntmps62
    go_wp2_with (go_at_call 75; refine (HC.out _).mono ?_; rintro e w' ⟨rfl, rfl⟩)
    go_ret
    exact ⟨ret_int (by rw [G.out]), rfl⟩
  · have h1 : 1 ≤ r := by omega
    have G := Lib.hid (g2 (by omega))
    clear g1 g2
    go_enter Try.func62, Try.ntmps62
    go_wp2_with (go_at_call 75; refine (HC.out _).mono ?_; rintro e w' ⟨rfl, rfl⟩)
    go_ret
    exact ⟨ret_int (by rw [G.out]), rfl⟩

/-- the code of an annuity: b: is the amount right? -/
def anE (r f : Int) (xs : List Int) (x : Int) (b : Bool) (n : Int) : Int :=
  if coE r f xs x = 0 then (if b = true ∧ (0 ≤ n ∧ n ≤ 120) ∧ x + n ≤ 150 then (if cD r xs (x - f).toNat = 0 then 5 else 0) else 2) else coE r f xs x

theorem anE_iff {r f : Int} {xs : List Int} {x : Int} {b : Bool} {n : Int} : anE r f xs x b n = 0 ↔ coE r f xs x = 0 ∧ b = true ∧ (0 ≤ n ∧ n ≤ 120) ∧ x + n ≤ 150 ∧ cD r xs (x - f).toNat ≠ 0 := by
  unfold anE
  by_cases h1 : coE r f xs x = 0
  · by_cases h2 : b = true ∧ (0 ≤ n ∧ n ≤ 120) ∧ x + n ≤ 150
    · rw [if_pos h1, if_pos h2]
      by_cases h3 : cD r xs (x - f).toNat = 0
      · simp [h3]
      · simp [h3, h1, h2]
    · rw [if_pos h1, if_neg h2]
      constructor
      · intro h; omega
      · rintro ⟨_, a, b, c, _⟩; exact absurd ⟨a, b, c⟩ h2
  · rw [if_neg h1]
    constructor
    · intro h; exact absurd h h1
    · rintro ⟨h, _⟩; exact absurd h h1

theorem inB_no {x a b : Int} (h : ¬ (a ≤ x ∧ x ≤ b)) : inB x a b = false := by
  cases hc : inB x a b
  · rfl
  · exact absurd ((inB_iff _ _ _).1 hc) h

set_option maxHeartbeats 400000 in
theorem ancode_any (r f : Int) (xs : List Int) (a : Option Addr) (l c : Nat) (x : Int) (b : Bool) (n : Int) (w : World) (h : Ints w a l xs) :
    Calls Try.prog 60 #[.agg #[.int .i64 f, .slice a l c], .int .i64 r, .int .i64 x, .bool b, .int .i64 n] w fun e w' => e = .returned (.int .i64 (anE r f xs x b n)) ∧ Below w.heap.size w w' := by
  have H := Lib.hid h
  have CO : Hid (∀ W, Hid (Below w.heap.size w W) → Calls Try.prog 88 #[.agg #[.int .i64 f, .slice a l c], .int .i64 r, .int .i64 x] W fun e w' => e = .returned (.int .i64 (coE r f xs x)) ∧ Below W.heap.size W w') :=
    Lib.hid (fun W hW => scode_any r f xs a l c x W (H.out.on hW.out))
  clear h
  by_cases hz : coE r f xs x = 0
  · obtain ⟨ht, ⟨r0, r1⟩, x0, x1⟩ := coE_iff.1 hz
    obtain ⟨f0, f1⟩ := ht.1
    have CD : Hid (∀ W, Hid (Below w.heap.size w W) → Calls Try.prog 64 #[.agg #[.int .i64 f, .slice a l c], .int .i64 r, .int .i64 x] W fun e w' => e = .returned (.int .i64 (cD r xs (x - f).toNat)) ∧ Below W.heap.size W w') :=
      Lib.hid (fun W hW => sD_any r f xs a l c x W (H.out.on hW.out) ht r0 r1 x0 (by omega))
    rw [hz] at CO
    by_cases hok : b = true ∧ (0 ≤ n ∧ n ≤ 120) ∧ x + n ≤ 150
    · have HR : Hid (anE r f xs x b n = if cD r xs (x - f).toNat = 0 then 5 else 0) := Lib.hid (by unfold anE; rw [if_pos hz, if_pos hok])
      obtain ⟨rfl, ⟨n0, n1⟩, hn⟩ := hok
      have hin : inB n 0 120 = true := (inB_iff _ _ _).2 ⟨n0, n1⟩
      obtain ⟨D, hD⟩ : ∃ D, cD r xs (x - f).toNat = D := ⟨_, rfl⟩
      rw [hD] at CD HR
      clear hD hz ht
      by_cases hd : D = 0
      · subst hd
        go_enter Try.func60, Try.ntmps60
        go_wp2_with fail
        with_reducible refine (CO.out _ (Lib.hid (box_b _ _))).mono ?_
        rintro e w1 ⟨rfl, hb⟩
        obtain ⟨hB, hc0, hc1⟩ := box2 hb
        have HB := Lib.hid hB
        clear hB hb
        go_wp2_with (go_at_call 74; refine (in_any _ _ _ _).mono ?_; rintro e w' ⟨rfl, rfl⟩)
        with_reducible refine (CD.out _ HB).mono ?_
        rintro e w2 ⟨rfl, hb⟩
        have HB2 := Lib.hid (HB.out.trans (hb.mono HB.out.size))
        clear hb
        go_wp2_with fail
        go_ret
        exact ⟨ret_int (by rw [HR.out]; simp), HB2.out⟩
      · have hd2 : (D == 0) = false := by simp [hd]
        have HR2 : Hid (anE r f xs x true n = 0) := Lib.hid (by rw [HR.out, if_neg hd])
        clear hd HR
        go_enter Try.func60, Try.ntmps60
        go_wp2_with fail
        with_reducible refine (CO.out _ (Lib.hid (box_b _ _))).mono ?_
        rintro e w1 ⟨rfl, hb⟩
        obtain ⟨hB, hc0, hc1⟩ := box2 hb
        have HB := Lib.hid hB
        clear hB hb
        go_wp2_with (go_at_call 74; refine (in_any _ _ _ _).mono ?_; rintro e w' ⟨rfl, rfl⟩)
        with_reducible refine (CD.out _ HB).mono ?_
        rintro e w2 ⟨rfl, hb⟩
        have HB2 := Lib.hid (HB.out.trans (hb.mono HB.out.size))
        clear hb
        go_wp2_with fail
        go_ret
        exact ⟨ret_int HR2.out.symm, HB2.out⟩
    · have HR : Hid (anE r f xs x b n = 2) := Lib.hid (by unfold anE; rw [if_pos hz, if_neg hok])
      clear hz ht CD
      cases b
      · go_enter Try.func60, Try.ntmps60
        go_wp2_with fail
        with_reducible refine (CO.out _ (Lib.hid (box_b _ _))).mono ?_
        rintro e w1 ⟨rfl, hb⟩
        obtain ⟨hB, hc0, hc1⟩ := box2 hb
        have HB := Lib.hid hB
        clear hB hb
        go_wp2_with fail
        go_ret
        exact ⟨ret_int HR.out.symm, HB.out⟩
      · by_cases hn : 0 ≤ n ∧ n ≤ 120
        · have hin : inB n 0 120 = true := (inB_iff _ _ _).2 hn
          have hx : 150 < x + n := by simp [hn] at hok; omega
          obtain ⟨n0, n1⟩ := hn
          clear hok
          go_enter Try.func60, Try.ntmps60
          go_wp2_with fail
          with_reducible refine (CO.out _ (Lib.hid (box_b _ _))).mono ?_
          rintro e w1 ⟨rfl, hb⟩
          obtain ⟨hB, hc0, hc1⟩ := box2 hb
          have HB := Lib.hid hB
          clear hB hb
          go_wp2_with (go_at_call 74; refine (in_any _ _ _ _).mono ?_; rintro e w' ⟨rfl, rfl⟩)
          go_ret
          exact ⟨ret_int HR.out.symm, HB.out⟩
        · have hin : inB n 0 120 = false := inB_no hn
          clear hok hn
          go_enter Try.func60, Try.ntmps60
          go_wp2_with fail
          with_reducible refine (CO.out _ (Lib.hid (box_b _ _))).mono ?_
          rintro e w1 ⟨rfl, hb⟩
          obtain ⟨hB, hc0, hc1⟩ := box2 hb
          have HB := Lib.hid hB
          clear hB hb
          go_wp2_with (go_at_call 74; refine (in_any _ _ _ _).mono ?_; rintro e w' ⟨rfl, rfl⟩)
          go_ret
          exact ⟨ret_int HR.out.symm, HB.out⟩
  · have HR : Hid (anE r f xs x b n = coE r f xs x) := Lib.hid (by unfold anE; rw [if_neg hz])
    obtain ⟨E, hE⟩ : ∃ E, coE r f xs x = E := ⟨_, rfl⟩
    rw [hE] at CO HR hz
    have hne : (E != 0) = true := by simp [hz]
    clear hE hz
    go_enter Try.func60, Try.ntmps60
    go_wp2_with fail
    with_reducible refine (CO.out _ (Lib.hid (box_b _ _))).mono ?_
    rintro e w1 ⟨rfl, hb⟩
    obtain ⟨hB, hc0, hc1⟩ := box2 hb
    have HB := Lib.hid hB
    clear hB hb
    go_wp2_with fail
    go_ret
    exact ⟨ret_int HR.out.symm, HB.out⟩

theorem samt_any (n : Int) (w : World) : Calls Try.prog 61 #[.int .i64 n] w fun e w' => e = .returned (.bool (inB n 1 1000000)) ∧ w = w' := by
  go_enter Try.func61, Try.ntmps61
  go_wp2_with (go_at_call 74; refine (in_any _ _ _ _).mono ?_; rintro e w' ⟨rfl, rfl⟩)
  go_ret
  exact ⟨rfl, rfl⟩

end Go.Proofs.Ytmcagpcldjopjaa

/- The program's columns: a number times a discount, the block of a table with its columns, its columns at an age, the check of the arguments. -/
namespace Go.Proofs.Ytmcagpcldjopjaa
open Go.ChangeShapes Go.WideShapes Go.ChangeAt Go.RowKit
set_option linter.unusedVariables false
set_option maxRecDepth 100000

theorem termB_iff (n : Int) : termB n = true ↔ 0 ≤ n ∧ n ≤ 120 := by unfold termB; rw [inB_iff]

theorem times_any (B : Nat) (r n : Int) (k : Nat) (w : World) (h : DB w B r) (h0 : 0 ≤ r) (h1 : r ≤ 200) (n0 : 0 ≤ n) (n1 : n ≤ 1000000) :
    Calls Try.prog 93 #[.pointer (some ⟨B, 0, none⟩), .int .i64 n, .int .i64 k] w (AfterPost B r (if k ≤ 120 then n * disc r k else 0) w) := by
  have H := Lib.hid h
  clear h
  by_cases hk : k ≤ 120
  · have ht : termB (k : Int) = true := (termB_iff _).2 (by omega)
    rw [if_pos hk]
    obtain ⟨d0, d1⟩ := disc_bd r h0 k
    obtain ⟨p0, p1⟩ := prod_bd n (disc r k) n0 n1 d0 d1
    have HA := Lib.hid (after_any B r k w H.out h0 h1 hk)
    obtain ⟨D, hD⟩ : ∃ D, disc r k = D := ⟨_, rfl⟩
    rw [hD] at d0 d1 p0 p1 HA ⊢
    clear hD
    go_enter Try.func93, Try.ntmps93
    go_wp2_with (first | (go_at_call 91; refine (isTerm_any _ _).mono ?_; rintro e w' ⟨rfl, rfl⟩) | (go_at_call 104; refine (HA.out).mono ?_; rintro e w2 ⟨rfl, hb, ho⟩))
    go_ret
    exact ⟨rfl, hb, ho⟩
  · have ht : termB (k : Int) = false := by
      cases hc : termB (k : Int)
      · rfl
      · have := (termB_iff _).1 hc; omega
    rw [if_neg hk]
    go_enter Try.func93, Try.ntmps93
    go_wp2_with (go_at_call 91; refine (isTerm_any _ _).mono ?_; rintro e w' ⟨rfl, rfl⟩)
    go_ret
    exact ⟨rfl, H.out, Only.refl _ _⟩

/-! ### the block of a table and its columns -/

/-- its cells: the first age, the lives, the columns -/
def ccells (f : Int) (v : Value) (G : Nat → Int) : Array Value := (([Value.int .i64 f, v] : List Value) ++ (List.range 604).map fun k => Value.int .i64 (G k)).toArray

def CBX (w : World) (R : Nat) (f : Int) (v : Value) (G : Nat → Int) : Prop := w.heap[R]? = some (.cells (ccells f v G) 84 (0, 0))

theorem CBX.lt {w : World} {R : Nat} {f : Int} {v : Value} {G : Nat → Int} (h : CBX w R f v G) : R < w.heap.size := by
  unfold CBX at h
  by_cases hb : R < w.heap.size
  · exact hb
  · have : w.heap[R]? = none := by simp; omega
    rw [this] at h; cases h

theorem CBX.first {w : World} {R : Nat} {f : Int} {v : Value} {G : Nat → Int} (h : CBX w R f v G) : w.cell? ⟨R, 0, none⟩ = some (.int .i64 f) := by
  unfold CBX at h
  simp [World.cell?, h, ccells]

theorem CBX.row {w : World} {R : Nat} {f : Int} {v : Value} {G : Nat → Int} (h : CBX w R f v G) : w.cell? ⟨R, 1, none⟩ = some v := by
  unfold CBX at h
  simp [World.cell?, h, ccells]

theorem CBX.at {w : World} {R : Nat} {f : Int} {v : Value} {G : Nat → Int} (h : CBX w R f v G) (k : Nat) (hk : k < 604) (u : Int) (hu : G k = u) (i : Nat) (hi : i = k + 2) : w.cell? ⟨R, i, none⟩ = some (.int .i64 u) := by
  subst hi
  unfold CBX at h
  simp [World.cell?, h, ccells, hk, hu]

theorem CBX.free {w : World} {R : Nat} {f : Int} {v : Value} {G : Nat → Int} (h : CBX w R f v G) (i : Nat) : w.frozen? ⟨R, i, none⟩ = false := by
  unfold CBX at h
  simp [World.frozen?, h]

theorem CBX.same {w w' : World} {R : Nat} {f : Int} {v : Value} {G : Nat → Int} (h : CBX w R f v G) (hb : w'.heap[R]? = w.heap[R]?) : CBX w' R f v G := by
  unfold CBX at h ⊢; rw [hb, h]

theorem CBX.set {w : World} {R : Nat} {f : Int} {v : Value} {G : Nat → Int} (h : CBX w R f v G) (k : Nat) (u : Int) (i : Nat) (hi : i = k + 2) : CBX (w.setCell ⟨R, i, none⟩ (.int .i64 u)) R f v (fun j => if j = k then u else G j) := by
  subst hi
  have hl := h.lt
  unfold CBX at h ⊢
  rw [Array.getElem?_eq_getElem hl] at h
  have h' : w.heap[R] = .cells (ccells f v G) 84 (0, 0) := by simpa using h
  show (w.heap.modify R _)[R]? = _
  rw [Array.getElem?_modify, if_pos rfl, Array.getElem?_eq_getElem hl, h']
  have e : (ccells f v G).setIfInBounds (k + 2) (.int .i64 u) = ccells f v (fun j => if j = k then u else G j) := by
    unfold ccells
    apply Array.ext'
    simp only [Array.toList_setIfInBounds, List.cons_append, List.nil_append, List.set_cons_succ, List.cons.injEq, true_and]
    apply List.ext_getElem
    · simp
    · intro n h1 h2
      simp only [List.getElem_set, List.getElem_map, List.getElem_range]
      by_cases hn : k = n
      · subst hn; simp
      · rw [if_neg hn, if_neg (fun e => hn e.symm)]
  simp [e]

/-- the columns of four functions at an age -/
def AtG (G : Nat → Int) (m : Nat) : Value := .agg #[.int .i64 (G (m * 4)), .int .i64 (G (m * 4 + 1)), .int .i64 (G (m * 4 + 2)), .int .i64 (G (m * 4 + 3))]

theorem colat_any (R : Nat) (f : Int) (v : Value) (G : Nat → Int) (m : Nat) (w : World) (h : CBX w R f v G) (hm : m ≤ 150) :
    Calls Try.prog 72 #[.pointer (some ⟨R, 2, none⟩), .int .i64 m] w fun e w' => e = .returned (AtG G m) ∧ Below w.heap.size w w' := by
  have H := Lib.hid h
  have hl := h.lt
  unfold AtG
  obtain ⟨a, ha⟩ : ∃ a, G (m * 4) = a := ⟨_, rfl⟩
  obtain ⟨b, hb⟩ : ∃ a, G (m * 4 + 1) = a := ⟨_, rfl⟩
  obtain ⟨c, hc⟩ : ∃ a, G (m * 4 + 2) = a := ⟨_, rfl⟩
  obtain ⟨d, hd⟩ : ∃ a, G (m * 4 + 3) = a := ⟨_, rfl⟩
  rw [ha, hb, hc, hd]
  have y0 := h.at _ (by omega) a ha (2 + m * 4) (by omega)
  have y1 := h.at _ (by omega) b hb (2 + m * 4 + 1) (by omega)
  have y2 := h.at _ (by omega) c hc (2 + m * 4 + 2) (by omega)
  have y3 := h.at _ (by omega) d hd (2 + m * 4 + 3) (by omega)
  clear h ha hb hc hd
  go_enter Try.func72, Try.ntmps72
  go_wp2_with fail
  refine bodyPost_ret (v := .agg #[.int .i64 a, .int .i64 b, .int .i64 c, .int .i64 d]) ?_ rfl ⟨rfl, box_b _ _⟩
  simp [results, Try.results72, go_sem]

end Go.Proofs.Ytmcagpcldjopjaa

/- ColumnsAt of the model. -/
namespace Go.Proofs.Ytmcagpcldjopjaa
open Go.ChangeShapes Go.WideShapes Go.ChangeAt Go.RowKit
set_option linter.unusedVariables false
set_option maxRecDepth 100000

/-- what ColumnsAt answers -/
def atV (r f : Int) (xs : List Int) (x : Int) (F : Nat → Int) : Int := if coE r f xs x = 0 then F (x - f).toNat else 0

theorem ret_at {a b c d e a' b' c' d' e' : Int} (h1 : a = a') (h2 : b = b') (h3 : c = c') (h4 : d = d') (h5 : e = e') :
    Ending.returned (.tuple #[.agg #[.int .i64 a, .int .i64 b, .int .i64 c, .int .i64 d], .int .i64 e]) = .returned (.tuple #[.agg #[.int .i64 a', .int .i64 b', .int .i64 c', .int .i64 d'], .int .i64 e']) := by
  rw [h1, h2, h3, h4, h5]

/-- a block of four cells -/
def Q4 (w : World) (B : Nat) (a b c d : Int) : Prop := w.heap[B]? = some (.cells #[.int .i64 a, .int .i64 b, .int .i64 c, .int .i64 d] 77 (0, 0))

def atPost (r f : Int) (xs : List Int) (x : Int) (w : World) (e : Ending) (w' : World) : Prop :=
  e = .returned (.tuple #[.agg #[.int .i64 (atV r f xs x (cD r xs)), .int .i64 (atV r f xs x (cN r xs)), .int .i64 (atV r f xs x (cC r xs)), .int .i64 (atV r f xs x (cM r xs))], .int .i64 (coE r f xs x)]) ∧ Below w.heap.size w w'

end Go.Proofs.Ytmcagpcldjopjaa

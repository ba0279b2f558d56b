/- Merged: MdN. -/
import Derived.Test.YtdlfofdibooidaaGreatLb5
import Derived.Lib.BitFns

/- The shifts of a division of two words by one. -/
namespace Go.Proofs.YtdlfofdibooidaaGreat
open Go.ChangeShapes Go.WideShapes Go.ChangeAt Go.RowKit
set_option linter.unusedVariables false

theorem bl_aux (f x : Nat) (h : x < 2 ^ f) : x < 2 ^ Lib.bitLenAux f x ∧ (x ≠ 0 → 1 ≤ Lib.bitLenAux f x ∧ 2 ^ Lib.bitLenAux f x ≤ 2 * x) ∧ Lib.bitLenAux f x ≤ f := by
  induction f generalizing x with
  | zero => simp [Lib.bitLenAux]; omega
  | succ f ih =>
    unfold Lib.bitLenAux
    split
    · next hx => subst hx; simp
    · next hx =>
      obtain ⟨i1, i2, i3⟩ := ih (x / 2) (by rw [Nat.pow_succ] at h; omega)
      have e : 2 ^ (1 + Lib.bitLenAux f (x / 2)) = 2 * 2 ^ Lib.bitLenAux f (x / 2) := by rw [Nat.add_comm, Nat.pow_succ]; omega
      rw [e]
      refine ⟨by omega, fun _ => ⟨by omega, ?_⟩, by omega⟩
      by_cases hz : x / 2 = 0
      · have hx1 : x = 1 := by omega
        subst hx1
        have : Lib.bitLenAux f (1 / 2) = 0 := by
          cases f with
          | zero => rfl
          | succ f => simp [Lib.bitLenAux]
        rw [this]; omega
      · have := (i2 hz).2; omega

/-- how far a divisor is shifted -/
theorem shift_by (y : Int) (y0 : 1 ≤ y) (y1 : y ≤ 1000000000000000000) : ∃ s : Nat, 64 - (Lib.bitLen y.toNat : Int) = (s : Int) ∧ 1 ≤ s ∧ s ≤ 63 ∧ 9223372036854775808 ≤ y * 2 ^ s ∧ y * 2 ^ s < 18446744073709551616 := by
  obtain ⟨n, rfl⟩ : ∃ n : Nat, y = n := ⟨y.toNat, by omega⟩
  obtain ⟨i1, i2, i3⟩ := bl_aux 64 n (by omega)
  obtain ⟨i4, i5⟩ := i2 (by omega)
  have hn : n < 2 ^ 63 := by omega
  obtain ⟨m, hm⟩ : ∃ m, Lib.bitLenAux 64 n = m := ⟨_, rfl⟩
  rw [hm] at i1 i3 i4 i5
  have hm64 : m ≠ 64 := by intro e; rw [e] at i5; omega
  have hp : 2 ^ m * 2 ^ (64 - m) = 18446744073709551616 := by rw [← Nat.pow_add, show m + (64 - m) = 64 by omega]
  have hpos : 0 < 2 ^ (64 - m) := Nat.pow_pos (by omega)
  have e : (n : Int) * (2 : Int) ^ (64 - m) = ((n * 2 ^ (64 - m) : Nat) : Int) := by rw [Int.natCast_mul, Int.natCast_pow]; rfl
  refine ⟨64 - m, ?_, by omega, by omega, ?_, ?_⟩
  · show 64 - (Lib.bitLenAux 64 n : Int) = _
    rw [hm]; omega
  · have h1 : 2 ^ m * 2 ^ (64 - m) ≤ 2 * n * 2 ^ (64 - m) := Nat.mul_le_mul_right _ i5
    rw [hp, Nat.mul_assoc] at h1
    have h2 : 9223372036854775808 ≤ n * 2 ^ (64 - m) := by omega
    rw [e]; omega
  · have h1 : n * 2 ^ (64 - m) < 2 ^ m * 2 ^ (64 - m) := Nat.mul_lt_mul_of_pos_right i1 hpos
    rw [hp] at h1
    rw [e]; omega

/-- what the shifted words are -/
structure Shf (hi lo y Y U V : Int) (s : Nat) : Prop where
  wy : IntKind.u64.wrap (y * 2 ^ s) = Y
  or : bits .or .u64 (IntKind.u64.wrap (hi * 2 ^ s)) (lo / 2 ^ (64 - s)) = U
  wv : IntKind.u64.wrap (lo * 2 ^ s) = V
  y0 : 9223372036854775808 ≤ Y
  y1 : Y < 18446744073709551616
  yp : Y = y * 2 ^ s
  u0 : 0 ≤ U
  u1 : U < Y
  v0 : 0 ≤ V
  v1 : V < 18446744073709551616
  all : U * 18446744073709551616 + V = (hi * 18446744073709551616 + lo) * 2 ^ s

theorem shf_all (hi lo y : Int) (s : Nat) (s0 : 1 ≤ s) (s1 : s ≤ 63) (hY0 : 9223372036854775808 ≤ y * 2 ^ s) (hY1 : y * 2 ^ s < 18446744073709551616) (h0 : 0 ≤ hi) (h1 : hi < y) (l0 : 0 ≤ lo) (l1 : lo < 18446744073709551616) :
    ∃ Y U V, Shf hi lo y Y U V s := by
  obtain ⟨p, hp⟩ : ∃ p : Int, (2 : Int) ^ s = p := ⟨_, rfl⟩
  obtain ⟨P, hP⟩ : ∃ p : Int, (2 : Int) ^ (64 - s) = p := ⟨_, rfl⟩
  have hp0 : 0 < p := by rw [← hp]; exact Int.pow_pos (by omega)
  have hP0 : 0 < P := by rw [← hP]; exact Int.pow_pos (by omega)
  have hpP : P * p = 18446744073709551616 := by rw [← hp, ← hP, ← Int.pow_add, show 64 - s + s = 64 by omega]; rfl
  have hL := Int.ediv_mul_add_emod lo P
  have hL1 := Int.emod_nonneg lo (b := P) (by omega)
  have hL2 := Int.emod_lt_of_pos lo (b := P) hP0
  obtain ⟨T, hT⟩ : ∃ T, lo / P = T := ⟨_, rfl⟩
  obtain ⟨M, hM⟩ : ∃ T, lo % P = T := ⟨_, rfl⟩
  have hT0 : 0 ≤ T := by rw [← hT]; exact Int.ediv_nonneg l0 (by omega)
  have hT1 : T < p := by rw [← hT]; exact Int.ediv_lt_of_lt_mul hP0 (by rw [Int.mul_comm, hpP]; exact l1)
  rw [hT, hM] at hL
  rw [hM] at hL1 hL2
  have hlp : lo * p = T * 18446744073709551616 + M * p := by rw [← hL, Int.add_mul, Int.mul_assoc, hpP]
  have hMp0 : 0 ≤ M * p := Int.mul_nonneg hL1 (by omega)
  have hMp1 : M * p < 18446744073709551616 := by rw [← hpP]; exact Int.mul_lt_mul_of_pos_right hL2 hp0
  have hh0 : 0 ≤ hi * p := Int.mul_nonneg h0 (by omega)
  have hh1 : (hi + 1) * p ≤ y * p := Int.mul_le_mul_of_nonneg_right (by omega) (by omega)
  rw [Int.add_mul, Int.one_mul] at hh1
  rw [hp] at hY0 hY1
  have hw : IntKind.u64.wrap (hi * p) = hi * p := by rw [IntKind.wrap_u64]; omega
  have hor : bits .or .u64 (hi * p) T = hi * p + T := by
    obtain ⟨h, rfl⟩ : ∃ h : Nat, hi = h := ⟨hi.toNat, by omega⟩
    obtain ⟨t, rfl⟩ : ∃ h : Nat, T = h := ⟨T.toNat, by omega⟩
    have hpn : p = ((2 ^ s : Nat) : Int) := by rw [← hp]; norm_cast
    rw [hpn] at hT1 hh1 hY1 hh0 ⊢
    have ht : t < 2 ^ s := by exact_mod_cast hT1
    have e1 : (h : Int) * ((2 ^ s : Nat) : Int) = ((h * 2 ^ s : Nat) : Int) := by norm_cast
    rw [e1] at hh1 hh0 ⊢
    rw [bits_or_u64_nat (h * 2 ^ s) t (by omega) (by omega)]
    rw [Nat.mul_comm, ← Nat.two_pow_add_eq_or_of_lt ht]
    omega
  refine ⟨y * p, hi * p + T, M * p, ?_, ?_, ?_, hY0, hY1, by rw [hp], by omega, by omega, hMp0, hMp1, ?_⟩
  · rw [hp, IntKind.wrap_u64]; omega
  · rw [hp, hP, hT, hw, hor]
  · rw [hp, hlp, IntKind.wrap_u64]; omega
  · rw [hp, Int.add_mul, Int.add_mul, Int.mul_right_comm, hlp]; omega

end Go.Proofs.YtdlfofdibooidaaGreat

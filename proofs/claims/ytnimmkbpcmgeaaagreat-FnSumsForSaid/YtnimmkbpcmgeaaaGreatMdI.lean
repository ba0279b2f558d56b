/- MultiplyDivide: the model's and the program's answer alike, and the exact law. -/
import Derived.Test.YtnimmkbpcmgeaaaGreatMdD
import Derived.Test.YtnimmkbpcmgeaaaGreatNums
namespace Go.Proofs.YtnimmkbpcmgeaaaGreat
open Go.ChangeShapes Go.WideShapes Go.ChangeAt Go.RowKit
set_option linter.unusedVariables false
set_option maxRecDepth 100000

def mvIn (a b c : Int) : Bool := inB a 0 1000000000000 && inB b 0 1000000000000000000 && inB c 1 1000000000000000000

def mvE (a b c : Int) : Int := if mvIn a b c = true then (if a * b / c ≤ 1000000000000000000 then 0 else 3) else 2
def mvV (a b c : Int) : Int := if mvE a b c = 0 then a * b / c else 0
def mvW (a b c : Int) : Int := if mvE a b c = 0 then a * b % c else 0

theorem ret_3i {a b c a' b' c' : Int} (h1 : a = a') (h2 : b = b') (h3 : c = c') : Ending.returned (.tuple #[.int .i64 a, .int .i64 b, .int .i64 c]) = .returned (.tuple #[.int .i64 a', .int .i64 b', .int .i64 c']) := by rw [h1, h2, h3]

theorem mvIn_iff (a b c : Int) : mvIn a b c = true ↔ (0 ≤ a ∧ a ≤ 1000000000000) ∧ (0 ≤ b ∧ b ≤ 1000000000000000000) ∧ 1 ≤ c ∧ c ≤ 1000000000000000000 := by
  unfold mvIn; rw [Bool.and_eq_true, Bool.and_eq_true, inB_iff, inB_iff, inB_iff, and_assoc]

theorem md_out {a b c : Int} (h : ¬ mvIn a b c = true) : mvE a b c = 2 ∧ mvV a b c = 0 ∧ mvW a b c = 0 := by simp [mvV, mvW, mvE, h]

theorem md_in {a b c : Int} (h : mvIn a b c = true) (hq : a * b / c ≤ 1000000000000000000) : mvE a b c = 0 ∧ mvV a b c = a * b / c ∧ mvW a b c = a * b % c := by simp [mvV, mvW, mvE, h, hq]

theorem md_lim {a b c : Int} (h : mvIn a b c = true) (hq : ¬ a * b / c ≤ 1000000000000000000) : mvE a b c = 3 ∧ mvV a b c = 0 ∧ mvW a b c = 0 := by simp only [mvV, mvW, mvE, h, if_neg hq]; simp

set_option maxHeartbeats 1000000 in
theorem md_impl (a b c : Int) (w : World) : Calls Tryz.prog 15 #[.int .i64 a, .int .i64 b, .int .i64 c] w fun e w' => e = .returned (.tuple #[.int .i64 (mvV a b c), .int .i64 (mvW a b c), .int .i64 (mvE a b c)]) ∧ Below w.heap.size w w' := by
  by_cases h1 : inB a 0 1000000000000 = true
  · by_cases h2 : inB b 0 1000000000000000000 = true
    · by_cases h3 : inB c 1 1000000000000000000 = true
      · have hin : mvIn a b c = true := by simp [mvIn, h1, h2, h3]
        obtain ⟨⟨a0, a1⟩, ⟨b0, b1⟩, c0, c1⟩ := (mvIn_iff a b c).1 hin
        have hp0 : 0 ≤ a * b := Int.mul_nonneg a0 b0
        have hp1 : a * b ≤ 1000000000000 * 1000000000000000000 := Int.le_trans (Int.mul_le_mul_of_nonneg_right a1 b0) (Int.mul_le_mul_of_nonneg_left b1 (by omega))
        obtain ⟨p, hp⟩ : ∃ p, a * b = p := ⟨_, rfl⟩
        have CM : Hid (∀ W, Calls Tryz.prog 31 #[.int .u64 a, .int .u64 b] W fun e w' => e = .returned (.tuple #[.int .u64 (p / 18446744073709551616), .int .u64 (p % 18446744073709551616)]) ∧ w' = W) := Lib.hid (fun W => by
          obtain ⟨m, rfl⟩ : ∃ n : Nat, a = n := ⟨a.toNat, by omega⟩
          obtain ⟨n, rfl⟩ : ∃ n : Nat, b = n := ⟨b.toNat, by omega⟩
          have := Tryz.bits_Mul64 m n (by omega) (by omega) W
          rw [← hp]
          rw [Int.natCast_ediv, Int.natCast_emod, Int.natCast_mul] at this
          exact this)
        rw [hp] at hp0 hp1
        obtain ⟨hi, hhi⟩ : ∃ h, p / 18446744073709551616 = h := ⟨_, rfl⟩
        obtain ⟨lo, hlo⟩ : ∃ h, p % 18446744073709551616 = h := ⟨_, rfl⟩
        rw [hhi, hlo] at CM
        have hh0 : 0 ≤ hi := by omega
        have hh1 : hi < 18446744073709551616 := by omega
        have hl0 : 0 ≤ lo := by omega
        have hl1 : lo < 18446744073709551616 := by omega
        have hall : hi * 18446744073709551616 + lo = p := by omega
        by_cases hc : c ≤ hi
        · have HM := Lib.hid (md_lim hin (by
            rw [hp]
            intro hn
            have hm : 18446744073709551616 * c ≤ p := by omega
            have := Int.le_ediv_of_mul_le (show 0 < c by omega) hm
            omega))
          clear hin hall hp hhi hlo
          go_enter Tryz.func15, Tryz.ntmps15
          go_wp2_with (first | (go_at_call 30; refine (within_any _ _ _ _).mono ?_; rintro e w' ⟨rfl, rfl⟩) | (go_at_call 31; refine (CM.out _).mono ?_; rintro e w' ⟨rfl, rfl⟩))
          go_ret3
          obtain ⟨m1, m2, m3⟩ := HM.out
          exact ⟨ret_3i m2.symm m3.symm m1.symm, Below.refl _ _⟩
        · have CD : Hid (∀ W, Calls Tryz.prog 32 #[.int .u64 hi, .int .u64 lo, .int .u64 c] W fun e w' => e = .returned (.tuple #[.int .u64 (p / c), .int .u64 (p % c)]) ∧ Below W.heap.size W w') := Lib.hid (fun W => by
            have := div64_any hi lo c W hh0 (by omega) hl0 hl1 c0 c1
            rw [hall] at this
            exact this)
          have q0 : 0 ≤ p / c := Int.ediv_nonneg hp0 (by omega)
          have q1 : p / c < 18446744073709551616 := Int.ediv_lt_of_lt_mul (by omega) (by omega)
          have r0 : 0 ≤ p % c := Int.emod_nonneg _ (by omega)
          have r1 : p % c < c := Int.emod_lt_of_pos _ (by omega)
          have HM1 := Lib.hid (fun hq : p / c ≤ 1000000000000000000 => md_in hin (show a * b / c ≤ 1000000000000000000 by rw [hp]; exact hq))
          have HM2 := Lib.hid (fun hq : ¬ p / c ≤ 1000000000000000000 => md_lim hin (show ¬ a * b / c ≤ 1000000000000000000 by rw [hp]; exact hq))
          rw [hp] at HM1
          obtain ⟨Q, hQ⟩ : ∃ Q, p / c = Q := ⟨_, rfl⟩
          obtain ⟨R, hR⟩ : ∃ Q, p % c = Q := ⟨_, rfl⟩
          rw [hQ, hR] at CD HM1
          rw [hQ] at HM2 q0 q1
          rw [hR] at r0 r1
          clear hQ hR hin hall hp hhi hlo
          by_cases hq : Q ≤ 1000000000000000000
          · have HM := Lib.hid (HM1.out hq)
            clear HM1 HM2
            go_enter Tryz.func15, Tryz.ntmps15
            go_wp2_with (first | (go_at_call 30; refine (within_any _ _ _ _).mono ?_; rintro e w' ⟨rfl, rfl⟩) | (go_at_call 31; refine (CM.out _).mono ?_; rintro e w' ⟨rfl, rfl⟩) | (go_at_call 32; refine (CD.out _).mono ?_; rintro e w2 ⟨rfl, hb⟩; have HB := Lib.hid hb; clear hb))
            go_ret3
            obtain ⟨m1, m2, m3⟩ := HM.out
            exact ⟨ret_3i m2.symm m3.symm m1.symm, HB.out⟩
          · have HM := Lib.hid (HM2.out hq)
            clear HM1 HM2
            go_enter Tryz.func15, Tryz.ntmps15
            go_wp2_with (first | (go_at_call 30; refine (within_any _ _ _ _).mono ?_; rintro e w' ⟨rfl, rfl⟩) | (go_at_call 31; refine (CM.out _).mono ?_; rintro e w' ⟨rfl, rfl⟩) | (go_at_call 32; refine (CD.out _).mono ?_; rintro e w2 ⟨rfl, hb⟩; have HB := Lib.hid hb; clear hb))
            go_ret3
            obtain ⟨m1, m2, m3⟩ := HM.out
            exact ⟨ret_3i m2.symm m3.symm m1.symm, HB.out⟩
      · have HM := Lib.hid (md_out (a := a) (b := b) (c := c) (by simp [mvIn, h3]))
        go_enter Tryz.func15, Tryz.ntmps15
        go_wp2_with (first | (go_at_call 30; refine (within_any _ _ _ _).mono ?_; rintro e w' ⟨rfl, rfl⟩))
        go_ret3
        obtain ⟨m1, m2, m3⟩ := HM.out
        exact ⟨ret_3i m2.symm m3.symm m1.symm, Below.refl _ _⟩
    · have HM := Lib.hid (md_out (a := a) (b := b) (c := c) (by simp [mvIn, h2]))
      go_enter Tryz.func15, Tryz.ntmps15
      go_wp2_with (first | (go_at_call 30; refine (within_any _ _ _ _).mono ?_; rintro e w' ⟨rfl, rfl⟩))
      go_ret3
      obtain ⟨m1, m2, m3⟩ := HM.out
      exact ⟨ret_3i m2.symm m3.symm m1.symm, Below.refl _ _⟩
  · have HM := Lib.hid (md_out (a := a) (b := b) (c := c) (by simp [mvIn, h1]))
    go_enter Tryz.func15, Tryz.ntmps15
    go_wp2_with (first | (go_at_call 30; refine (within_any _ _ _ _).mono ?_; rintro e w' ⟨rfl, rfl⟩))
    go_ret3
    obtain ⟨m1, m2, m3⟩ := HM.out
    exact ⟨ret_3i m2.symm m3.symm m1.symm, Below.refl _ _⟩

end Go.Proofs.YtnimmkbpcmgeaaaGreat

/- Merged: MdD. -/
import Derived.Test.YtdlfofdibooidaaGreatLb1
import Derived.Test.YtdlfofdibooidaaGreatLb22
import Derived.Test.YtdlfofdibooidaaGreatShelf
import Derived.Deep.Cut
import Derived.Deep.CutRange
import Derived.Deep.CutBlock

/- math/bits.Div64, for divisors of at most 60 bits. | MultiplyDivide: the model's and the program's answer alike, and the exact law. -/
namespace Go.Proofs.YtdlfofdibooidaaGreat
open Go.ChangeShapes Go.WideShapes Go.ChangeAt Go.RowKit
set_option linter.unusedVariables false
set_option maxRecDepth 100000

theorem ret_uu {a b a' b' : Int} (h1 : a = a') (h2 : b = b') : Ending.returned (.tuple #[.int .u64 a, .int .u64 b]) = .returned (.tuple #[.int .u64 a', .int .u64 b']) := by rw [h1, h2]

set_option maxHeartbeats 2000000 in
theorem div64_any (hi lo y : Int) (w : World) (h0 : 0 ≤ hi) (h1 : hi < y) (l0 : 0 ≤ lo) (l1 : lo < 18446744073709551616) (y0 : 1 ≤ y) (y1 : y ≤ 1000000000000000000) :
    Calls Tryz.prog 126 #[.int .u64 hi, .int .u64 lo, .int .u64 y] w fun e w' => e = .returned (.tuple #[.int .u64 ((hi * 18446744073709551616 + lo) / y), .int .u64 ((hi * 18446744073709551616 + lo) % y)]) ∧ Below w.heap.size w w' := by
  have hyz : ¬ y = 0 := by omega
  have hyb : (y == 0) = false := by simp [hyz]
  by_cases hz : hi = 0
  · subst hz
    have hle : ¬ y ≤ 0 := by omega
    have e1 : IntKind.u64.wrap (lo.tdiv y) = lo / y := by
      have := Int.ediv_nonneg l0 (show 0 ≤ y by omega)
      have := Int.ediv_le_self y l0
      rw [Int.tdiv_eq_ediv_of_nonneg l0, IntKind.wrap_u64]; omega
    have e2 : IntKind.u64.wrap (lo.tmod y) = lo % y := by
      have := Int.emod_nonneg lo (b := y) (by omega)
      have := Int.emod_lt_of_pos lo (b := y) (by omega)
      rw [Int.tmod_eq_emod_of_nonneg l0, IntKind.wrap_u64]; omega
    go_enter Tryz.func126, Tryz.ntmps126
    go_wp2_with fail
    go_quiet (fail)
    go_wp2_with fail
    go_ret2
    exact ⟨ret_uu (by simp) (by simp), by first | exact below_drewN (Below.refl _ _) _ | exact Below.refl _ _⟩
  · obtain ⟨s, hs, s0, s1, hY0, hY1⟩ := shift_by y y0 y1
    obtain ⟨Y, U, V, S⟩ := shf_all hi lo y s s0 s1 hY0 hY1 h0 h1 l0 l1
    have CL : Hid (∀ W, Calls Tryz.prog 137 #[.int .u64 y] W fun e w' => e = .returned (.int .i64 s) ∧ w' = W) := Lib.hid (fun W => by have := Tryz.bits_LeadingZeros64 y W (by omega) (by omega); rw [hs] at this; exact this)
    have HS := Lib.hid S
    obtain ⟨wy, wor, wv, Y0, Y1, yp, u0, u1, v0, v1, hall⟩ := S
    have ey0 := Go.and_low32 Y (by omega) Y1
    have ev0 := Go.and_low32 V v0 v1
    obtain ⟨a1, ha1⟩ : ∃ a, Y / 4294967296 = a := ⟨_, rfl⟩
    obtain ⟨a0, ha0⟩ : ∃ a, Y % 4294967296 = a := ⟨_, rfl⟩
    obtain ⟨b1, hb1⟩ : ∃ a, V / 4294967296 = a := ⟨_, rfl⟩
    obtain ⟨b0, hb0⟩ : ∃ a, V % 4294967296 = a := ⟨_, rfl⟩
    rw [ha0] at ey0
    rw [hb0] at ev0
    have D1 : Dig U a1 a0 Y b1 := ⟨by omega, by omega, by omega, by omega, by omega, u0, u1, by omega, by omega⟩
    have HD1 := Lib.hid D1
    have HW1 := D1.left Y1
    have U64 : U < 18446744073709551616 := by omega
    obtain ⟨st1, st2, st3, st4, st5, st6⟩ := D1.start
    have hr1 := dig_rest U a1 u0 U64 (by have := D1.lo1; omega)
    have a1lo := D1.lo1
    have a1hi := D1.hi1
    have a0lo := D1.lo0
    have a0hi := D1.hi0
    have b1lo := D1.v0
    have b1hi := D1.v1
    have b0lo : 0 ≤ b0 := by omega
    have b0hi : b0 < 4294967296 := by omega
    have a1z : ¬ a1 = 0 := by omega
    have a1b : (a1 == 0) = false := by simp [a1z]
    obtain ⟨Q0, hQ0⟩ : ∃ a, U / a1 = a := ⟨_, rfl⟩
    obtain ⟨R0, hR0⟩ : ∃ a, U % a1 = a := ⟨_, rfl⟩
    rw [hQ0] at st1 st2 st3 st4 hr1
    rw [hR0] at st4 st5 st6 hr1
    have e1 : IntKind.u64.wrap (U.tdiv a1) = Q0 := by rw [Int.tdiv_eq_ediv_of_nonneg u0, hQ0, IntKind.wrap_u64]; omega
    have HL := Lib.hid hall
    have hqt1 := D1.qt
    have hrt1 := D1.rt
    obtain ⟨q1, hq1⟩ : ∃ a, (U * 4294967296 + b1) / Y = a := ⟨_, rfl⟩
    obtain ⟨w1, hw1⟩ : ∃ a, (U * 4294967296 + b1) % Y = a := ⟨_, rfl⟩
    rw [hq1] at hqt1 HW1 st1
    rw [hw1] at hrt1 HW1
    obtain ⟨q1lo, q1hi⟩ := hqt1
    obtain ⟨w1lo, w1hi⟩ := hrt1
    have Hqt1 : Hid ((U * 4294967296 + b1) / Y = q1 ∧ 0 ≤ q1) := Lib.hid ⟨hq1, q1lo⟩
    have HE1 := Lib.hid (D1.qm)
    rw [hq1, hw1] at HE1
    have D2 : Dig w1 a1 a0 Y b0 := ⟨D1.eq, a1lo, a1hi, a0lo, a0hi, w1lo, w1hi, b0lo, b0hi⟩
    have HD2 := Lib.hid D2
    have HW2 := D2.left Y1
    obtain ⟨st7, st8, st9, st10, st11, st12⟩ := D2.start
    have w164 : w1 < 18446744073709551616 := by omega
    have hr2 := dig_rest w1 a1 w1lo w164 (by omega)
    obtain ⟨Q2, hQ2⟩ : ∃ a, w1 / a1 = a := ⟨_, rfl⟩
    obtain ⟨R2, hR2⟩ : ∃ a, w1 % a1 = a := ⟨_, rfl⟩
    rw [hQ2] at st7 st8 st9 st10 hr2
    rw [hR2] at st10 st11 st12 hr2
    have e2 : IntKind.u64.wrap (w1.tdiv a1) = Q2 := by rw [Int.tdiv_eq_ediv_of_nonneg w1lo, hQ2, IntKind.wrap_u64]; omega
    have hqt2 := D2.qt
    have hrt2 := D2.rt
    obtain ⟨q2, hq2⟩ : ∃ a, (w1 * 4294967296 + b0) / Y = a := ⟨_, rfl⟩
    obtain ⟨x0, hx0⟩ : ∃ a, (w1 * 4294967296 + b0) % Y = a := ⟨_, rfl⟩
    rw [hq2] at hqt2 HW2 st7
    rw [hx0] at hrt2 HW2
    obtain ⟨q2lo, q2hi⟩ := hqt2
    obtain ⟨x0lo, x0hi⟩ := hrt2
    have Hqt2 : Hid ((w1 * 4294967296 + b0) / Y = q2 ∧ 0 ≤ q2) := Lib.hid ⟨hq2, q2lo⟩
    have HE2 := Lib.hid (D2.qm)
    rw [hq2, hx0] at HE2
    have HST1 : Hid (q1 ≤ Q0 ∧ Q0 * a1 + R0 = U) := Lib.hid ⟨st1, st4⟩
    have HST2 : Hid (q2 ≤ Q2 ∧ Q2 * a1 + R2 = w1) := Lib.hid ⟨st7, st10⟩
    have HFIN := Lib.hid (dig_both (hi * 18446744073709551616 + lo) y (2 ^ s) U V b1 b0 Y q1 w1 q2 x0 (Int.pow_pos (by omega)) hall (by omega) yp HE1.out HE2.out x0lo x0hi)
    clear hs hall hY0 hY1 D1 D2 hQ0 hR0 hQ2 hR2 yp st1 st4 st7 st10 hq1 hw1 hq2 hx0
    go_enter Tryz.func126, Tryz.ntmps126
    go_upto_block 0 with (go_at_call 137; refine (CL.out _).mono ?_; rintro e w' ⟨rfl, rfl⟩)
    go_cut [15, 16] from 67 to 85 (fun q r wx => q = .int .u64 q1 ∧ (∃ R, r = .int .u64 R) ∧ wx = w')
    case first =>
      go_wp2_with fail
      go_loop [15, 16] (fun q r => ∃ Q R : Int, q = .int .u64 Q ∧ r = .int .u64 R ∧ 0 ≤ Q ∧ Q ≤ 4294967297 ∧ 0 ≤ R ∧ R < 4294967296 ∧ Hid (q1 ≤ Q ∧ Q * a1 + R = U)) (fun _ r => (4294967296 - intOf r).toNat)
      case atStart => exact ⟨Q0, R0, rfl, rfl, by omega, by omega, by omega, by omega, HST1⟩
      case round =>
        obtain ⟨Q, R, rfl, rfl, g0, g1, g2, g3, HI⟩ := hrel
        have key : Hid ((4294967296 ≤ Q ∨ 4294967296 * R + b1 < Q * a0) → q1 ≤ Q - 1 ∧ (Q - 1) * a1 + (R + a1) = U) := Lib.hid (fun hc => by have := HD1.out.down HI.out.2 (by have := HI.out.1; have := Hqt1.out; omega) hc; have h7 := Hqt1.out; rw [← h7.1]; exact this)
        by_cases c1 : 4294967296 ≤ Q
        · have hk := Lib.hid (key.out (.inl c1))
          have hQ1 : 1 ≤ Q := by omega
          by_cases c3 : 4294967296 ≤ R + a1
          · have hfar := Lib.hid (HD1.out.far (Q := Q - 1) (R := R + a1) hk.out.2 (by have := hk.out.1; have := Hqt1.out; omega) (by omega) (by omega) c3)
            go_wp2_with fail
            go_meet
            case rel => exact ⟨by rw [hfar.out, Hqt1.out.1], ⟨_, rfl⟩, rfl⟩
          · go_wp2_with fail
            go_round
            case rel => exact ⟨Q - 1, R + a1, rfl, rfl, by omega, by omega, by omega, by omega, hk⟩
            case measure => simp [intOf]; omega
        · have hx := dig_prod Q a0 g0 (by omega) a0lo a0hi
          have hx0 := Int.mul_nonneg g0 a0lo
          have hst : Hid (Q * a0 ≤ 4294967296 * R + b1 → Q = q1) := Lib.hid (fun hc => by have := HD1.out.stop HI.out.2 (by have := HI.out.1; have := Hqt1.out; omega) hc; rw [this, Hqt1.out.1])
          have hzz : Hid (Q = 0 → Q * a0 = 0) := Lib.hid (fun h => by rw [h]; simp)
          obtain ⟨X, hX⟩ : ∃ X, Q * a0 = X := ⟨_, rfl⟩
          rw [hX] at hx hx0 key hst hzz
          by_cases c2 : 4294967296 * R + b1 < X
          · have hk := Lib.hid (key.out (.inr c2))
            have hQ1 : 1 ≤ Q := by have := hzz.out; omega
            by_cases c3 : 4294967296 ≤ R + a1
            · have hfar := Lib.hid (HD1.out.far (Q := Q - 1) (R := R + a1) hk.out.2 (by have := hk.out.1; have := Hqt1.out; omega) (by omega) (by omega) c3)
              go_wp2_with fail
              go_meet
              case rel => exact ⟨by rw [hfar.out, Hqt1.out.1], ⟨_, rfl⟩, rfl⟩
            · go_wp2_with fail
              go_round
              case rel => exact ⟨Q - 1, R + a1, rfl, rfl, by omega, by omega, by omega, by omega, hk⟩
              case measure => simp [intOf]; omega
          · have he := Lib.hid (hst.out (by omega))
            go_wp2_with fail
            go_meet
            case rel => exact ⟨by rw [he.out], ⟨_, rfl⟩, rfl⟩
    case rest =>
      obtain ⟨rfl, ⟨R1, rfl⟩, hww⟩ := hcut
      have hww' := hww.symm
      subst hww'
      clear hww
      go_upto_block 2 with fail
      go_cut [18, 16] from 102 to 120 (fun q r wx => q = .int .u64 q2 ∧ (∃ R, r = .int .u64 R) ∧ wx = w')
      case first =>
        go_wp2_with fail
        go_loop [18, 16] (fun q r => ∃ Q R : Int, q = .int .u64 Q ∧ r = .int .u64 R ∧ 0 ≤ Q ∧ Q ≤ 4294967297 ∧ 0 ≤ R ∧ R < 4294967296 ∧ Hid (q2 ≤ Q ∧ Q * a1 + R = w1)) (fun _ r => (4294967296 - intOf r).toNat)
        case atStart => exact ⟨Q2, R2, rfl, rfl, by omega, by omega, by omega, by omega, HST2⟩
        case round =>
          obtain ⟨Q, R, rfl, rfl, g0, g1, g2, g3, HI⟩ := hrel
          have key : Hid ((4294967296 ≤ Q ∨ 4294967296 * R + b0 < Q * a0) → q2 ≤ Q - 1 ∧ (Q - 1) * a1 + (R + a1) = w1) := Lib.hid (fun hc => by have := HD2.out.down HI.out.2 (by have := HI.out.1; have := Hqt2.out; omega) hc; have h7 := Hqt2.out; rw [← h7.1]; exact this)
          by_cases c1 : 4294967296 ≤ Q
          · have hk := Lib.hid (key.out (.inl c1))
            have hQ1 : 1 ≤ Q := by omega
            by_cases c3 : 4294967296 ≤ R + a1
            · have hfar := Lib.hid (HD2.out.far (Q := Q - 1) (R := R + a1) hk.out.2 (by have := hk.out.1; have := Hqt2.out; omega) (by omega) (by omega) c3)
              go_wp2_with fail
              go_meet
              case rel => exact ⟨by rw [hfar.out, Hqt2.out.1], ⟨_, rfl⟩, rfl⟩
            · go_wp2_with fail
              go_round
              case rel => exact ⟨Q - 1, R + a1, rfl, rfl, by omega, by omega, by omega, by omega, hk⟩
              case measure => simp [intOf]; omega
          · have hx := dig_prod Q a0 g0 (by omega) a0lo a0hi
            have hx0 := Int.mul_nonneg g0 a0lo
            have hst : Hid (Q * a0 ≤ 4294967296 * R + b0 → Q = q2) := Lib.hid (fun hc => by have := HD2.out.stop HI.out.2 (by have := HI.out.1; have := Hqt2.out; omega) hc; rw [this, Hqt2.out.1])
            have hzz : Hid (Q = 0 → Q * a0 = 0) := Lib.hid (fun h => by rw [h]; simp)
            obtain ⟨X, hX⟩ : ∃ X, Q * a0 = X := ⟨_, rfl⟩
            rw [hX] at hx hx0 key hst hzz
            by_cases c2 : 4294967296 * R + b0 < X
            · have hk := Lib.hid (key.out (.inr c2))
              have hQ1 : 1 ≤ Q := by have := hzz.out; omega
              by_cases c3 : 4294967296 ≤ R + a1
              · have hfar := Lib.hid (HD2.out.far (Q := Q - 1) (R := R + a1) hk.out.2 (by have := hk.out.1; have := Hqt2.out; omega) (by omega) (by omega) c3)
                go_wp2_with fail
                go_meet
                case rel => exact ⟨by rw [hfar.out, Hqt2.out.1], ⟨_, rfl⟩, rfl⟩
              · go_wp2_with fail
                go_round
                case rel => exact ⟨Q - 1, R + a1, rfl, rfl, by omega, by omega, by omega, by omega, hk⟩
                case measure => simp [intOf]; omega
            · have he := Lib.hid (hst.out (by omega))
              go_wp2_with fail
              go_meet
              case rel => exact ⟨by rw [he.out], ⟨_, rfl⟩, rfl⟩
      case rest =>
        obtain ⟨rfl, ⟨R3, rfl⟩, hww⟩ := hcut
        have hww' := hww.symm
        subst hww'
        clear hww
        go_wp2_with fail
        go_ret2
        obtain ⟨f1, f2⟩ := HFIN.out
        exact ⟨ret_uu f1.symm f2.symm, Below.refl _ _⟩

def mvIn (a b c : Int) : Bool := inB a 0 1000000000000 && inB b 0 1000000000000000000 && inB c 1 1000000000000000000

def mvE (a b c : Int) : Int := if mvIn a b c = true then (if a * b / c ≤ 1000000000000000000 then 0 else 3) else 2
def mvV (a b c : Int) : Int := if mvE a b c = 0 then a * b / c else 0
def mvW (a b c : Int) : Int := if mvE a b c = 0 then a * b % c else 0

theorem ret_3i {a b c a' b' c' : Int} (h1 : a = a') (h2 : b = b') (h3 : c = c') : Ending.returned (.tuple #[.int .i64 a, .int .i64 b, .int .i64 c]) = .returned (.tuple #[.int .i64 a', .int .i64 b', .int .i64 c']) := by rw [h1, h2, h3]

theorem mvIn_iff (a b c : Int) : mvIn a b c = true ↔ (0 ≤ a ∧ a ≤ 1000000000000) ∧ (0 ≤ b ∧ b ≤ 1000000000000000000) ∧ 1 ≤ c ∧ c ≤ 1000000000000000000 := by
  unfold mvIn; rw [Bool.and_eq_true, Bool.and_eq_true, inB_iff, inB_iff, inB_iff, and_assoc]

theorem md_out {a b c : Int} (h : ¬ mvIn a b c = true) : mvE a b c = 2 ∧ mvV a b c = 0 ∧ mvW a b c = 0 := by simp [mvV, mvW, mvE, h]

theorem md_in {a b c : Int} (h : mvIn a b c = true) (hq : a * b / c ≤ 1000000000000000000) : mvE a b c = 0 ∧ mvV a b c = a * b / c ∧ mvW a b c = a * b % c := by simp [mvV, mvW, mvE, h, hq]

theorem md_lim {a b c : Int} (h : mvIn a b c = true) (hq : ¬ a * b / c ≤ 1000000000000000000) : mvE a b c = 3 ∧ mvV a b c = 0 ∧ mvW a b c = 0 := by simp only [mvV, mvW, mvE, h, if_neg hq]; simp

set_option maxHeartbeats 1000000 in
theorem md_impl (a b c : Int) (w : World) : Calls Tryz.prog 108 #[.int .i64 a, .int .i64 b, .int .i64 c] w fun e w' => e = .returned (.tuple #[.int .i64 (mvV a b c), .int .i64 (mvW a b c), .int .i64 (mvE a b c)]) ∧ Below w.heap.size w w' := by
  by_cases h1 : inB a 0 1000000000000 = true
  · by_cases h2 : inB b 0 1000000000000000000 = true
    · by_cases h3 : inB c 1 1000000000000000000 = true
      · have hin : mvIn a b c = true := by simp [mvIn, h1, h2, h3]
        obtain ⟨⟨a0, a1⟩, ⟨b0, b1⟩, c0, c1⟩ := (mvIn_iff a b c).1 hin
        have hp0 : 0 ≤ a * b := Int.mul_nonneg a0 b0
        have hp1 : a * b ≤ 1000000000000 * 1000000000000000000 := Int.le_trans (Int.mul_le_mul_of_nonneg_right a1 b0) (Int.mul_le_mul_of_nonneg_left b1 (by omega))
        obtain ⟨p, hp⟩ : ∃ p, a * b = p := ⟨_, rfl⟩
        have CM : Hid (∀ W, Calls Tryz.prog 125 #[.int .u64 a, .int .u64 b] W fun e w' => e = .returned (.tuple #[.int .u64 (p / 18446744073709551616), .int .u64 (p % 18446744073709551616)]) ∧ w' = W) := Lib.hid (fun W => by
          obtain ⟨m, rfl⟩ : ∃ n : Nat, a = n := ⟨a.toNat, by omega⟩
          obtain ⟨n, rfl⟩ : ∃ n : Nat, b = n := ⟨b.toNat, by omega⟩
          have := Tryz.bits_Mul64 m n (by omega) (by omega) W
          rw [← hp]
          rw [Int.natCast_ediv, Int.natCast_emod, Int.natCast_mul] at this
          exact this)
        rw [hp] at hp0 hp1
        obtain ⟨hi, hhi⟩ : ∃ h, p / 18446744073709551616 = h := ⟨_, rfl⟩
        obtain ⟨lo, hlo⟩ : ∃ h, p % 18446744073709551616 = h := ⟨_, rfl⟩
        rw [hhi, hlo] at CM
        have hh0 : 0 ≤ hi := by omega
        have hh1 : hi < 18446744073709551616 := by omega
        have hl0 : 0 ≤ lo := by omega
        have hl1 : lo < 18446744073709551616 := by omega
        have hall : hi * 18446744073709551616 + lo = p := by omega
        by_cases hc : c ≤ hi
        · have HM := Lib.hid (md_lim hin (by
            rw [hp]
            intro hn
            have hm : 18446744073709551616 * c ≤ p := by omega
            have := Int.le_ediv_of_mul_le (show 0 < c by omega) hm
            omega))
          clear hin hall hp hhi hlo
          go_enter Tryz.func108, Tryz.ntmps108
          go_wp2_with (first | (go_at_call 87; refine (within_any _ _ _ _).mono ?_; rintro e w' ⟨rfl, rfl⟩) | (go_at_call 125; refine (CM.out _).mono ?_; rintro e w' ⟨rfl, rfl⟩))
          go_ret3
          obtain ⟨m1, m2, m3⟩ := HM.out
          exact ⟨ret_3i m2.symm m3.symm m1.symm, Below.refl _ _⟩
        · have CD : Hid (∀ W, Calls Tryz.prog 126 #[.int .u64 hi, .int .u64 lo, .int .u64 c] W fun e w' => e = .returned (.tuple #[.int .u64 (p / c), .int .u64 (p % c)]) ∧ Below W.heap.size W w') := Lib.hid (fun W => by
            have := div64_any hi lo c W hh0 (by omega) hl0 hl1 c0 c1
            rw [hall] at this
            exact this)
          have q0 : 0 ≤ p / c := Int.ediv_nonneg hp0 (by omega)
          have q1 : p / c < 18446744073709551616 := Int.ediv_lt_of_lt_mul (by omega) (by omega)
          have r0 : 0 ≤ p % c := Int.emod_nonneg _ (by omega)
          have r1 : p % c < c := Int.emod_lt_of_pos _ (by omega)
          have HM1 := Lib.hid (fun hq : p / c ≤ 1000000000000000000 => md_in hin (show a * b / c ≤ 1000000000000000000 by rw [hp]; exact hq))
          have HM2 := Lib.hid (fun hq : ¬ p / c ≤ 1000000000000000000 => md_lim hin (show ¬ a * b / c ≤ 1000000000000000000 by rw [hp]; exact hq))
          rw [hp] at HM1
          obtain ⟨Q, hQ⟩ : ∃ Q, p / c = Q := ⟨_, rfl⟩
          obtain ⟨R, hR⟩ : ∃ Q, p % c = Q := ⟨_, rfl⟩
          rw [hQ, hR] at CD HM1
          rw [hQ] at HM2 q0 q1
          rw [hR] at r0 r1
          clear hQ hR hin hall hp hhi hlo
          by_cases hq : Q ≤ 1000000000000000000
          · have HM := Lib.hid (HM1.out hq)
            clear HM1 HM2
            go_enter Tryz.func108, Tryz.ntmps108
            go_wp2_with (first | (go_at_call 87; refine (within_any _ _ _ _).mono ?_; rintro e w' ⟨rfl, rfl⟩) | (go_at_call 125; refine (CM.out _).mono ?_; rintro e w' ⟨rfl, rfl⟩) | (go_at_call 126; refine (CD.out _).mono ?_; rintro e w2 ⟨rfl, hb⟩; have HB := Lib.hid hb; clear hb))
            go_ret3
            obtain ⟨m1, m2, m3⟩ := HM.out
            exact ⟨ret_3i m2.symm m3.symm m1.symm, HB.out⟩
          · have HM := Lib.hid (HM2.out hq)
            clear HM1 HM2
            go_enter Tryz.func108, Tryz.ntmps108
            go_wp2_with (first | (go_at_call 87; refine (within_any _ _ _ _).mono ?_; rintro e w' ⟨rfl, rfl⟩) | (go_at_call 125; refine (CM.out _).mono ?_; rintro e w' ⟨rfl, rfl⟩) | (go_at_call 126; refine (CD.out _).mono ?_; rintro e w2 ⟨rfl, hb⟩; have HB := Lib.hid hb; clear hb))
            go_ret3
            obtain ⟨m1, m2, m3⟩ := HM.out
            exact ⟨ret_3i m2.symm m3.symm m1.symm, HB.out⟩
      · have HM := Lib.hid (md_out (a := a) (b := b) (c := c) (by simp [mvIn, h3]))
        go_enter Tryz.func108, Tryz.ntmps108
        go_wp2_with (first | (go_at_call 87; refine (within_any _ _ _ _).mono ?_; rintro e w' ⟨rfl, rfl⟩))
        go_ret3
        obtain ⟨m1, m2, m3⟩ := HM.out
        exact ⟨ret_3i m2.symm m3.symm m1.symm, Below.refl _ _⟩
    · have HM := Lib.hid (md_out (a := a) (b := b) (c := c) (by simp [mvIn, h2]))
      go_enter Tryz.func108, Tryz.ntmps108
      go_wp2_with (first | (go_at_call 87; refine (within_any _ _ _ _).mono ?_; rintro e w' ⟨rfl, rfl⟩))
      go_ret3
      obtain ⟨m1, m2, m3⟩ := HM.out
      exact ⟨ret_3i m2.symm m3.symm m1.symm, Below.refl _ _⟩
  · have HM := Lib.hid (md_out (a := a) (b := b) (c := c) (by simp [mvIn, h1]))
    go_enter Tryz.func108, Tryz.ntmps108
    go_wp2_with (first | (go_at_call 87; refine (within_any _ _ _ _).mono ?_; rintro e w' ⟨rfl, rfl⟩))
    go_ret3
    obtain ⟨m1, m2, m3⟩ := HM.out
    exact ⟨ret_3i m2.symm m3.symm m1.symm, Below.refl _ _⟩

end Go.Proofs.YtdlfofdibooidaaGreat

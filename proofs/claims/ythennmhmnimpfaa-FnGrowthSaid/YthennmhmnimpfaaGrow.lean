/- Growing amounts; GrowAmount, DoublingYears and RateBetween of the program and of its model: one Lean function for both. -/
import Derived.Test.YthennmhmnimpfaaDsum
namespace Go.Proofs.Ythennmhmnimpfaa
open Go.ChangeShapes Go.WideShapes Go.ChangeAt Go.RowKit
set_option linter.unusedVariables false
set_option maxRecDepth 100000

/-- an amount after k years, or the first one that is greater than the greatest money -/
def grow (a r : Int) : Nat → Int
  | 0 => a
  | k + 1 => if grow a r k ≤ 1000000000000 then grow a r k + grow a r k * r / 1000 else grow a r k

theorem rate_mul (x r M : Int) (h0 : 0 ≤ x) (h1 : x ≤ M) (r0 : 0 ≤ r) (r1 : r ≤ 200) : 0 ≤ x * r ∧ x * r ≤ 200 * M := by
  refine ⟨Int.mul_nonneg h0 r0, ?_⟩
  have := Int.mul_le_mul_of_nonneg_left r1 h0
  omega

theorem grow_bd (a r : Int) (h0 : 0 ≤ a) (h1 : a ≤ 1000000000) (r0 : 0 ≤ r) (r1 : r ≤ 200) (k : Nat) : 0 ≤ grow a r k ∧ grow a r k ≤ 1200000000000 := by
  induction k with
  | zero => simp [grow]; omega
  | succ k ih =>
    rw [grow]
    split
    · rename_i h
      obtain ⟨p0, p1⟩ := rate_mul (grow a r k) r 1000000000000 ih.1 h r0 r1
      omega
    · exact ih

theorem grow_le (a r : Int) (h0 : 0 ≤ a) (h1 : a ≤ 1000000000) (r0 : 0 ≤ r) (r1 : r ≤ 200) (k : Nat) : grow a r k ≤ grow a r (k + 1) := by
  obtain ⟨b0, b1⟩ := grow_bd a r h0 h1 r0 r1 k
  rw [grow]
  split
  · obtain ⟨p0, p1⟩ := rate_mul (grow a r k) r 1200000000000 b0 b1 r0 r1
    omega
  · omega

theorem grow_mono (a r : Int) (h0 : 0 ≤ a) (h1 : a ≤ 1000000000) (r0 : 0 ≤ r) (r1 : r ≤ 200) (k n : Nat) : grow a r k ≤ grow a r (k + n) := by
  induction n with
  | zero => exact Int.le_refl _
  | succ n ih => exact Int.le_trans ih (grow_le a r h0 h1 r0 r1 (k + n))

theorem grow_stuck (a r : Int) (k n : Nat) (h : ¬ grow a r k ≤ 1000000000000) : grow a r (k + n) = grow a r k := by
  induction n with
  | zero => rfl
  | succ n ih => rw [← Nat.add_assoc, grow, ih, if_neg h]

/-- a step, told for the walks -/
theorem grow_step (a r : Int) (h0 : 0 ≤ a) (h1 : a ≤ 1000000000) (r0 : 0 ≤ r) (r1 : r ≤ 200) (k : Nat) (hk : grow a r k ≤ 1000000000000) :
    ∃ x q : Int, grow a r k = x ∧ x * r / 1000 = q ∧ grow a r (k + 1) = x + q ∧ 0 ≤ x ∧ x ≤ 1000000000000 ∧ 0 ≤ q ∧ q ≤ 200000000000 ∧ 0 ≤ x * r ∧ x * r ≤ 200000000000000 ∧ IntKind.i64.wrap ((x * r).tdiv 1000) = q := by
  obtain ⟨b0, b1⟩ := grow_bd a r h0 h1 r0 r1 k
  obtain ⟨p0, p1⟩ := rate_mul (grow a r k) r 1000000000000 b0 hk r0 r1
  refine ⟨_, _, rfl, rfl, by rw [grow, if_pos hk], b0, hk, by omega, by omega, p0, by omega, ?_⟩
  rw [Int.tdiv_eq_ediv_of_nonneg p0]
  exact IntWalk.i64_in _ (by omega)

theorem sgrow_any (a r : Int) (n : Nat) (w : World) (h0 : 0 ≤ a) (h1 : a ≤ 1000000000) (r0 : 0 ≤ r) (r1 : r ≤ 200) (hn : n ≤ 1000) :
    Calls Try.prog 68 #[.int .i64 a, .int .i64 r, .int .i64 n] w fun e w' => e = .returned (.int .i64 (grow a r n)) ∧ w = w' := by
  go_enter Try.func68, Try.ntmps68
  go_wp2_with fail
  go_loopw [0, 7] (fun v i wr => ∃ j : Nat, j ≤ n ∧ i = .int .i64 j ∧ v = .int .i64 (grow a r j) ∧ wr = w) (fun _ i _ => n - (intOf i).toNat)
  case atStart => exact ⟨0, by omega, rfl, rfl, rfl⟩
  case round =>
    obtain ⟨j, hj, rfl, rfl, rfl⟩ := hrel
    by_cases hlt : j < n
    · by_cases hm : grow a r j ≤ 1000000000000
      · obtain ⟨x, q, hx, hq, he, b0, b1, q0, q1, p0, p1, hw⟩ := grow_step a r h0 h1 r0 r1 j hm
        rw [hx] at hm ⊢
        have HE := Lib.hid he
        clear hx hq he
        go_wp2_with fail
        go_roundw
        case rel => exact ⟨j + 1, by omega, by go_num, by first | (rw [HE.out]; go_num) | (rw [HE.out]), by first | rfl | trivial⟩
        case measure => simp [intOf]; omega
      · have hs := Lib.hid (grow_stuck a r j (n - j) hm)
        obtain ⟨x, hx⟩ : ∃ x, grow a r j = x := ⟨_, rfl⟩
        rw [hx] at hm ⊢
        have HX := Lib.hid hx
        clear hx
        go_wp2_with fail
        go_ret
        refine ⟨ret_int ?_, rfl⟩
        have := hs.out
        rw [show j + (n - j) = n by omega] at this
        rw [this, HX.out]
    · obtain rfl : j = n := by omega
      obtain ⟨x, hx⟩ : ∃ x, grow a r j = x := ⟨_, rfl⟩
      rw [hx]
      have HX := Lib.hid hx
      clear hx
      by_cases hm : x ≤ 1000000000000
      all_goals
        go_wp2_with fail
        go_ret
        exact ⟨ret_int HX.out.symm, rfl⟩

theorem wi_any (x r : Int) (w : World) (b0 : 0 ≤ x) (b1 : x ≤ 1000000000000) (r0 : 0 ≤ r) (r1 : r ≤ 200) :
    Calls Try.prog 69 #[.int .i64 x, .int .i64 r] w fun e w' => e = .returned (.int .i64 (x + x * r / 1000)) ∧ w = w' := by
  obtain ⟨p0, p1⟩ := rate_mul x r 1000000000000 b0 b1 r0 r1
  have q0 : 0 ≤ x * r / 1000 := by omega
  have q1 : x * r / 1000 ≤ 200000000000 := by omega
  go_enter Try.func69, Try.ntmps69
  go_wp2_with (go_at_call 72; refine (partDown_any _ _ _ _ (by omega) b1 r0 (by omega) (by omega)).mono ?_; rintro e w' ⟨rfl, rfl⟩)
  go_ret
  exact ⟨rfl, rfl⟩

/-! ### GrowAmount -/

def gaB (a r n : Int) : Bool := amtB a && rateB r && termB n

def gaV (a r n : Int) : Int := if gaB a r n then (if grow a r n.toNat ≤ 1000000000000 then grow a r n.toNat else 0) else 0

def gaE (a r n : Int) : Int := if gaB a r n then (if grow a r n.toNat ≤ 1000000000000 then 0 else 3) else 2

theorem gaB_iff (a r n : Int) : gaB a r n = true ↔ (0 ≤ a ∧ a ≤ 1000000000) ∧ (0 ≤ r ∧ r ≤ 200) ∧ (0 ≤ n ∧ n ≤ 120) := by
  unfold gaB amtB rateB termB; rw [Bool.and_eq_true, Bool.and_eq_true, inB_iff, inB_iff, inB_iff, and_assoc]

theorem ga_yes {a r g : Int} {k : Nat} (h : gaB a r k = true) (hg : grow a r k = g) (hm : g ≤ 1000000000000) : g = gaV a r k ∧ 0 = gaE a r k := by
  subst hg; simp [gaV, gaE, h, hm]

theorem ga_no {a r g : Int} {k : Nat} (h : gaB a r k = true) (hg : grow a r k = g) (hm : ¬ g ≤ 1000000000000) : 0 = gaV a r k ∧ 3 = gaE a r k := by
  subst hg; simp [gaV, gaE, h]; omega

theorem ga_spec (a r n : Int) (w : World) : Calls Try.prog 36 #[.int .i64 a, .int .i64 r, .int .i64 n] w fun e w' => e = .returned (.tuple #[.int .i64 (gaV a r n), .int .i64 (gaE a r n)]) ∧ w = w' := by
  by_cases h : gaB a r n = true
  · obtain ⟨⟨a0, a1⟩, ⟨r0, r1⟩, ⟨n0, n1⟩⟩ := (gaB_iff _ _ _).1 h
    obtain ⟨k, rfl⟩ : ∃ k : Nat, n = k := ⟨n.toNat, by omega⟩
    have e1 : amtB a = true := inB_t a0 a1
    have e2 : rateB r = true := inB_t r0 r1
    have e3 : inB k 0 120 = true := inB_t n0 n1
    obtain ⟨g, hg⟩ : ∃ g, grow a r k = g := ⟨_, rfl⟩
    have hc := sgrow_any a r k w a0 a1 r0 r1 (by omega)
    rw [hg] at hc
    have H := Lib.hid h
    have HG := Lib.hid hg
    clear h hg
    by_cases hm : g ≤ 1000000000000
    all_goals
      have HM := Lib.hid hm
      go_enter Try.func36, Try.ntmps36
      go_wp2_with (first | (go_at_call 67; refine (sAmount_any _ _).mono ?_; rintro e w' ⟨rfl, rfl⟩) | (go_at_call 51; refine (sRate_any _ _).mono ?_; rintro e w' ⟨rfl, rfl⟩) | (go_at_call 52; refine (in_any _ _ _ _).mono ?_; rintro e w' ⟨rfl, rfl⟩) | (go_at_call 68; refine (hc).mono ?_; rintro e w' ⟨rfl, rfl⟩))
      go_ret2
    · exact ⟨ret_ii (ga_yes H.out HG.out HM.out).1 (ga_yes H.out HG.out HM.out).2, rfl⟩
    · exact ⟨ret_ii (ga_no H.out HG.out (Int.not_le.2 HM.out)).1 (ga_no H.out HG.out (Int.not_le.2 HM.out)).2, rfl⟩
  · cases h1 : amtB a <;> cases h2 : rateB r <;> cases h3 : inB n 0 120
    case true.true.true => exact absurd (by simp [gaB, termB, h1, h2, h3]) h
    all_goals
      have H := Lib.hid h
      clear h
      go_enter Try.func36, Try.ntmps36
      go_wp2_with (first | (go_at_call 67; refine (sAmount_any _ _).mono ?_; rintro e w' ⟨rfl, rfl⟩) | (go_at_call 51; refine (sRate_any _ _).mono ?_; rintro e w' ⟨rfl, rfl⟩) | (go_at_call 52; refine (in_any _ _ _ _).mono ?_; rintro e w' ⟨rfl, rfl⟩))
      go_ret2
      exact ⟨ret_ii (by simp [gaV, H.out]) (by simp [gaE, H.out]), rfl⟩

theorem ga_impl (a r n : Int) (w : World) : Calls Try.prog 35 #[.int .i64 a, .int .i64 r, .int .i64 n] w fun e w' => e = .returned (.tuple #[.int .i64 (gaV a r n), .int .i64 (gaE a r n)]) ∧ w = w' := by
  by_cases h : gaB a r n = true
  · obtain ⟨⟨a0, a1⟩, ⟨r0, r1⟩, ⟨n0, n1⟩⟩ := (gaB_iff _ _ _).1 h
    obtain ⟨k, rfl⟩ : ∃ k : Nat, n = k := ⟨n.toNat, by omega⟩
    have e1 : amtB a = true := inB_t a0 a1
    have e2 : rateB r = true := inB_t r0 r1
    have e3 : termB k = true := inB_t n0 n1
    have H := Lib.hid h
    clear h
    go_enter Try.func35, Try.ntmps35
    go_wp2_with (first | (go_at_call 56; refine (isAmount_any _ _).mono ?_; rintro e w' ⟨rfl, rfl⟩) | (go_at_call 48; refine (isRate_any _ _).mono ?_; rintro e w' ⟨rfl, rfl⟩) | (go_at_call 49; refine (isTerm_any _ _).mono ?_; rintro e w' ⟨rfl, rfl⟩))
    go_loopw [0, 22] (fun v i wr => ∃ j : Nat, j ≤ k ∧ i = .int .i64 j ∧ v = .int .i64 (grow a r j) ∧ grow a r j ≤ 1000000000000 ∧ wr = w) (fun _ i _ => k - (intOf i).toNat)
    case atStart => exact ⟨0, by omega, rfl, rfl, by simp [grow]; omega, rfl⟩
    case round =>
      obtain ⟨j, hj, rfl, rfl, hm, rfl⟩ := hrel
      by_cases hlt : j < k
      · obtain ⟨x, q, hx, hq, he, b0, b1, q0, q1, p0, p1, hw⟩ := grow_step a r a0 a1 r0 r1 j hm
        rw [hx] at hm ⊢
        have HE := Lib.hid he
        have HM := Lib.hid (grow_mono a r a0 a1 r0 r1 (j + 1) (k - (j + 1)))
        have hwi := fun w => wi_any x r w b0 b1 r0 r1
        simp only [hq] at hwi
        clear hx hq he hw
        by_cases hy : x + q ≤ 1000000000000
        · go_wp2_with (go_at_call 69; refine (hwi _).mono ?_; rintro e w' ⟨rfl, rfl⟩)
          go_roundw
          case rel => exact ⟨j + 1, by omega, by go_num, by first | (rw [HE.out]; go_num) | (rw [HE.out]), by rw [HE.out]; exact hy, by first | rfl | trivial⟩
          case measure => simp [intOf]; omega
        · go_wp2_with (go_at_call 69; refine (hwi _).mono ?_; rintro e w' ⟨rfl, rfl⟩)
          go_ret2
          have hM := HM.out
          rw [HE.out, show j + 1 + (k - (j + 1)) = k by omega] at hM
          have hN : ¬ grow a r k ≤ 1000000000000 := by omega
          exact ⟨ret_ii (ga_no H.out rfl hN).1 (ga_no H.out rfl hN).2, rfl⟩
      · obtain rfl : j = k := by omega
        obtain ⟨x, hx⟩ : ∃ x, grow a r j = x := ⟨_, rfl⟩
        rw [hx] at hm ⊢
        have HX := Lib.hid hx
        clear hx
        go_wp2_with fail
        go_ret2
        exact ⟨ret_ii (ga_yes H.out HX.out hm).1 (ga_yes H.out HX.out hm).2, rfl⟩
  · cases h1 : amtB a <;> cases h2 : rateB r <;> cases h3 : termB n
    case true.true.true => exact absurd (by simp [gaB, h1, h2, h3]) h
    all_goals
      have H := Lib.hid h
      clear h
      go_enter Try.func35, Try.ntmps35
      go_wp2_with (first | (go_at_call 56; refine (isAmount_any _ _).mono ?_; rintro e w' ⟨rfl, rfl⟩) | (go_at_call 48; refine (isRate_any _ _).mono ?_; rintro e w' ⟨rfl, rfl⟩) | (go_at_call 49; refine (isTerm_any _ _).mono ?_; rintro e w' ⟨rfl, rfl⟩))
      go_ret2
      exact ⟨ret_ii (by simp [gaV, H.out]) (by simp [gaE, H.out]), rfl⟩

end Go.Proofs.Ythennmhmnimpfaa

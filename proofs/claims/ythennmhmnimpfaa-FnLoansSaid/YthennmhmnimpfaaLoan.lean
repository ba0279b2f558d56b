/- Loans: the payment, and how a balance falls; LoanPayment of the program and of its model: one Lean function for both. -/
import Derived.Test.YthennmhmnimpfaaDsum
namespace Go.Proofs.Ythennmhmnimpfaa
open Go.ChangeShapes Go.WideShapes Go.ChangeAt Go.RowKit
set_option linter.unusedVariables false
set_option maxRecDepth 100000

def lnB (a r n : Int) : Bool := inB a 1 100000000 && rateB r && inB n 1 60

theorem lnB_iff (a r n : Int) : lnB a r n = true ↔ (1 ≤ a ∧ a ≤ 100000000) ∧ (0 ≤ r ∧ r ≤ 200) ∧ (1 ≤ n ∧ n ≤ 60) := by
  unfold lnB rateB; rw [Bool.and_eq_true, Bool.and_eq_true, inB_iff, inB_iff, inB_iff, and_assoc]

/-- the payment of a loan -/
def pay (a r : Int) (n : Nat) : Int := -(-(a * 1000000000) / dsum r 1 n)

def lpV (a r n : Int) : Int := if lnB a r n then pay a r n.toNat else 0

def lpE (a r n : Int) : Int := if lnB a r n then 0 else 2

theorem disc_one (r : Int) (r0 : 0 ≤ r) (r1 : r ≤ 200) : 1 ≤ disc r 1 := by
  have h : (1000 + r) * 833333333 ≤ 1000000000 * 1000 := by omega
  have := Int.ediv_le_ediv (show 0 < 1000 + r by omega) h
  rw [Int.mul_ediv_cancel_left _ (by omega)] at this
  simp only [disc]
  omega

theorem dsum_pos (r : Int) (r0 : 0 ≤ r) (r1 : r ≤ 200) (n : Nat) : 1 ≤ dsum r 1 (n + 1) := by
  induction n with
  | zero => have := disc_one r r0 r1; simp only [dsum]; simp; exact this
  | succ n ih =>
    have := (disc_bd r r0 (1 + (n + 1))).1
    rw [dsum]; omega

/-- what the discounts cost at the rate is at most one -/
theorem dsum_rate (r : Int) (r0 : 0 ≤ r) (n : Nat) : dsum r 1 n * r ≤ 1000 * (1000000000 - disc r n) := by
  induction n with
  | zero => simp [dsum, disc]
  | succ n ih =>
    have h := Int.ediv_mul_le (disc r n * 1000) (show 1000 + r ≠ 0 by omega)
    have e : disc r (n + 1) = disc r n * 1000 / (1000 + r) := rfl
    rw [← e, Int.mul_add] at h
    rw [dsum, Nat.add_comm 1 n, Int.add_mul]
    omega

theorem ceil_up (x s : Int) (hs : 0 < s) : x ≤ -(-x / s) * s ∧ -(-x / s) * s ≤ x + s - 1 := by
  have h1 := Int.ediv_mul_le (-x) (show s ≠ 0 by omega)
  have h2 := Int.lt_ediv_add_one_mul_self (-x) hs
  rw [Int.add_mul] at h2
  rw [Int.neg_mul]
  omega

theorem ceil_alt (x s : Int) (hs : 0 < s) : (x + s - 1) / s = -(-x / s) := by
  obtain ⟨h1, h2⟩ := ceil_up x s hs
  obtain ⟨q, hq⟩ : ∃ q, -(-x / s) = q := ⟨_, rfl⟩
  rw [hq] at h1 h2 ⊢
  have e : x + s - 1 = (x + s - 1 - q * s) + q * s := by omega
  rw [e, Int.add_mul_ediv_right _ _ (by omega), Int.ediv_eq_zero_of_lt (by omega) (by omega)]
  omega

theorem ceil_le (x s : Int) (hs : 1 ≤ s) (hx : 0 ≤ x) : 0 ≤ -(-x / s) ∧ -(-x / s) ≤ x := by
  have h := div_bd (-x) s x hs hx (by omega) (by omega)
  refine ⟨?_, by omega⟩
  have := Int.ediv_le_ediv (show 0 < s by omega) (show -x ≤ 0 by omega)
  rw [Int.zero_ediv] at this
  omega

theorem pay_bd (a r : Int) (n : Nat) (a1 : 1 ≤ a) (a2 : a ≤ 100000000) (r0 : 0 ≤ r) (r1 : r ≤ 200) (hn : 1 ≤ n) : 1 ≤ pay a r n ∧ pay a r n ≤ 100000000000000000 ∧ a * r ≤ pay a r n * 1000 := by
  obtain ⟨m, rfl⟩ : ∃ m, n = m + 1 := ⟨n - 1, by omega⟩
  have hp := dsum_pos r r0 r1 m
  have hr := dsum_rate r r0 (m + 1)
  have hd := (disc_bd r r0 (m + 1)).1
  obtain ⟨h1, h2⟩ := ceil_up (a * 1000000000) (dsum r 1 (m + 1)) (by omega)
  obtain ⟨h3, h4⟩ := ceil_le (a * 1000000000) (dsum r 1 (m + 1)) hp (by omega)
  unfold pay
  obtain ⟨q, hq⟩ : ∃ q, -(-(a * 1000000000) / dsum r 1 (m + 1)) = q := ⟨_, rfl⟩
  rw [hq] at h1 h2 h3 h4 ⊢
  refine ⟨?_, by omega, ?_⟩
  · by_cases hz : q = 0
    · subst hz; omega
    · omega
  · have g1 := Int.mul_le_mul_of_nonneg_right h1 r0
    have g2 := Int.mul_le_mul_of_nonneg_left (show dsum r 1 (m + 1) * r ≤ 1000000000000 by omega) h3
    rw [Int.mul_assoc] at g1
    rw [Int.mul_assoc, Int.mul_comm 1000000000 r, ← Int.mul_assoc] at g1
    omega

/-! ### the walks -/

theorem isLoan_any (a r n : Int) (w : World) : Calls Try.prog 64 #[.int .i64 a, .int .i64 r, .int .i64 n] w fun e w' => e = .returned (.bool (lnB a r n)) ∧ w = w' := by
  cases h1 : inB a 1 100000000 <;> cases h2 : rateB r
  all_goals
    go_enter Try.func64, Try.ntmps64
    go_wp2_with (first | (go_at_call 66; refine (within_any _ _ _ _).mono ?_; rintro e w' ⟨rfl, rfl⟩) | (go_at_call 48; refine (isRate_any _ _).mono ?_; rintro e w' ⟨rfl, rfl⟩))
    go_ret
    exact ⟨ret_bool (by simp [lnB, h1, h2]), rfl⟩

theorem sLoan_any (a r n : Int) (w : World) : Calls Try.prog 61 #[.int .i64 a, .int .i64 r, .int .i64 n] w fun e w' => e = .returned (.bool (lnB a r n)) ∧ w = w' := by
  cases h1 : inB a 1 100000000 <;> cases h2 : rateB r
  all_goals
    go_enter Try.func61, Try.ntmps61
    go_wp2_with (first | (go_at_call 52; refine (in_any _ _ _ _).mono ?_; rintro e w' ⟨rfl, rfl⟩) | (go_at_call 51; refine (sRate_any _ _).mono ?_; rintro e w' ⟨rfl, rfl⟩))
    go_ret
    exact ⟨ret_bool (by simp [lnB, h1, h2]), rfl⟩

theorem down2_any (a b : Int) (w : World) (h1 : -1000000000000000000 ≤ a) (h2 : a ≤ 1000000000000000000) (h5 : 1 ≤ b) : Calls Try.prog 73 #[.int .i64 a, .int .i64 b] w fun e w' => e = .returned (.int .i64 (a / b)) ∧ w = w' := by
  obtain ⟨hb1, hb2⟩ := tdiv_bd a b 1000000000000000000 h5 (by omega) h1 h2
  obtain ⟨d1, d2⟩ := down_of a b h5
  have D1 := Lib.hid d1
  have D2 := Lib.hid d2
  clear d1 d2
  by_cases hlt : a.tmod b < 0
  all_goals
    go_enter Try.func73, Try.ntmps73
    go_wp2
    go_ret
  · exact ⟨ret_int (D1.out hlt), rfl⟩
  · exact ⟨ret_int (D2.out (by omega)), rfl⟩

theorem up2_any (a b : Int) (w : World) (h1 : -1000000000000000000 ≤ a) (h2 : a ≤ 1000000000000000000) (h5 : 1 ≤ b) : Calls Try.prog 63 #[.int .i64 a, .int .i64 b] w fun e w' => e = .returned (.int .i64 (-(-a / b))) ∧ w = w' := by
  obtain ⟨hb1, hb2⟩ := div_bd (-a) b 1000000000000000000 h5 (by omega) (by omega) (by omega)
  go_enter Try.func63, Try.ntmps63
  go_wp2_with (go_at_call 73; refine (down2_any _ _ _ (by omega) (by omega) h5).mono ?_; rintro e w' ⟨rfl, rfl⟩)
  go_ret
  exact ⟨rfl, rfl⟩

theorem spay_any (a r : Int) (n : Nat) (w : World) (a1 : 1 ≤ a) (a2 : a ≤ 100000000) (r0 : 0 ≤ r) (r1 : r ≤ 200) (n1 : 1 ≤ n) (n2 : n ≤ 60) :
    Calls Try.prog 62 #[.int .i64 a, .int .i64 r, .int .i64 n] w fun e w' => e = .returned (.int .i64 (pay a r n)) ∧ w = w' := by
  have hs : 1 ≤ dsum r 1 n := by obtain ⟨m, rfl⟩ : ∃ m, n = m + 1 := ⟨n - 1, by omega⟩; exact dsum_pos r r0 r1 m
  have hc := fun W => sann_any r 1 n W r0 r1 (by omega)
  unfold pay
  obtain ⟨s, hs2⟩ : ∃ s, dsum r 1 n = s := ⟨_, rfl⟩
  simp only [hs2] at hc hs ⊢
  have HC := Lib.hid hc
  clear hc hs2
  go_enter Try.func62, Try.ntmps62
  go_wp2_with (first | (go_at_call 55; refine (HC.out _).mono ?_; rintro e w' ⟨rfl, rfl⟩) | (go_at_call 63; refine (up2_any _ _ _ (by omega) (by omega) hs).mono ?_; rintro e w' ⟨rfl, rfl⟩))
  go_ret
  exact ⟨rfl, rfl⟩

theorem lp_spec (a r n : Int) (w : World) : Calls Try.prog 28 #[.int .i64 a, .int .i64 r, .int .i64 n] w fun e w' => e = .returned (.tuple #[.int .i64 (lpV a r n), .int .i64 (lpE a r n)]) ∧ w = w' := by
  by_cases h : lnB a r n = true
  · obtain ⟨⟨a1, a2⟩, ⟨r0, r1⟩, ⟨n1, n2⟩⟩ := (lnB_iff _ _ _).1 h
    obtain ⟨k, rfl⟩ : ∃ k : Nat, n = k := ⟨n.toNat, by omega⟩
    go_enter Try.func28, Try.ntmps28
    go_wp2_with (first | (go_at_call 61; refine (sLoan_any _ _ _ _).mono ?_; rintro e w' ⟨rfl, rfl⟩) | (go_at_call 62; refine (spay_any _ _ k _ a1 a2 r0 r1 (by omega) (by omega)).mono ?_; rintro e w' ⟨rfl, rfl⟩))
    go_ret2
    exact ⟨ret_ii (by simp [lpV, h]) (by simp [lpE, h]), rfl⟩
  · go_enter Try.func28, Try.ntmps28
    go_wp2_with (first | (go_at_call 61; refine (sLoan_any _ _ _ _).mono ?_; rintro e w' ⟨rfl, rfl⟩))
    go_ret2
    exact ⟨ret_ii (by simp [lpV, h]) (by simp [lpE, h]), rfl⟩

theorem lp_impl (a r n : Int) (w : World) : Calls Try.prog 27 #[.int .i64 a, .int .i64 r, .int .i64 n] w fun e w' => e = .returned (.tuple #[.int .i64 (lpV a r n), .int .i64 (lpE a r n)]) ∧ Below w.heap.size w w' := by
  by_cases h : lnB a r n = true
  · obtain ⟨⟨a1, a2⟩, ⟨r0, r1⟩, ⟨n1, n2⟩⟩ := (lnB_iff _ _ _).1 h
    obtain ⟨k, rfl⟩ : ∃ k : Nat, n = k := ⟨n.toNat, by omega⟩
    have hs : 1 ≤ dsum r 1 k := by obtain ⟨m, rfl⟩ : ∃ m, k = m + 1 := ⟨k - 1, by omega⟩; exact dsum_pos r r0 r1 m
    have hs2 := (dsum_bd r r0 1 k).2
    have hst := store_dsc r w
    have hc := isum_any w.heap.size r 1 k k _ (db_new r w) r0 r1 (by omega) (by omega)
    have hv : (-(-(a * 1000000000) / dsum r 1 k) : Int) = lpV a r k := by simp [lpV, h, pay]
    have hq : IntKind.i64.wrap ((a * 1000000000 + dsum r 1 k - 1).tdiv (dsum r 1 k)) = -(-(a * 1000000000) / dsum r 1 k) := by
      obtain ⟨h3, h4⟩ := ceil_le (a * 1000000000) (dsum r 1 k) hs (by omega)
      rw [Int.tdiv_eq_ediv_of_nonneg (by omega), ceil_alt _ _ (by omega)]
      exact IntWalk.i64_in _ (by omega)
    rw [hv] at hq
    have HV := Lib.hid h
    obtain ⟨s, hs3⟩ : ∃ s, dsum r 1 k = s := ⟨_, rfl⟩
    rw [hs3] at hc hs hs2 hq
    have HC := Lib.hid hc
    clear hc hs3 hv
    go_enter Try.func27, Try.ntmps27
    go_wp2_with (first | (go_at_call 64; refine (isLoan_any _ _ _ _).mono ?_; rintro e w' ⟨rfl, rfl⟩) | (go_at_call 54; refine (HC.out).mono ?_; rintro e w2 ⟨rfl, hb, ho⟩))
    go_ret2
    exact ⟨ret_ii rfl (by simp [lpE, HV.out]), new_below ho⟩
  · go_enter Try.func27, Try.ntmps27
    go_wp2_with (first | (go_at_call 64; refine (isLoan_any _ _ _ _).mono ?_; rintro e w' ⟨rfl, rfl⟩))
    go_ret2
    exact ⟨ret_ii (by simp [lpV, h]) (by simp [lpE, h]), Below.refl _ _⟩

end Go.Proofs.Ythennmhmnimpfaa

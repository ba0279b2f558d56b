/- DoublingYears and RateBetween of the program and of its model: one Lean function for both. -/
import Derived.Test.YthennmhmnimpfaaGrow
namespace Go.Proofs.Ythennmhmnimpfaa
open Go.ChangeShapes Go.WideShapes Go.ChangeAt Go.RowKit
set_option linter.unusedVariables false
set_option maxRecDepth 100000

/-- the first number of k .. k + n - 1 for which p holds; k + n if there is none -/
def lst (p : Nat → Bool) : Nat → Nat → Nat
  | 0, k => k
  | n + 1, k => if p k then k else lst p n (k + 1)

theorem lst_le (p : Nat → Bool) (n k : Nat) : k ≤ lst p n k ∧ lst p n k ≤ k + n := by
  induction n generalizing k with
  | zero => simp [lst]
  | succ n ih =>
    rw [lst]
    split
    · omega
    · have := ih (k + 1); omega

theorem lst_hit (p : Nat → Bool) (n k : Nat) (h : lst p n k < k + n) : p (lst p n k) = true := by
  induction n generalizing k with
  | zero => simp [lst] at h
  | succ n ih =>
    rw [lst] at h ⊢
    split
    · assumption
    · rename_i hp
      rw [if_neg hp] at h
      exact ih (k + 1) (by omega)

theorem lst_min (p : Nat → Bool) (n k j : Nat) (h1 : k ≤ j) (h2 : j < lst p n k) : p j = false := by
  induction n generalizing k with
  | zero => simp [lst] at h2; omega
  | succ n ih =>
    rw [lst] at h2
    split at h2
    · omega
    · rename_i hp
      by_cases hk : k = j
      · subst hk; simpa using hp
      · exact ih (k + 1) (by omega) h2

theorem lst_here {p : Nat → Bool} {n k N : Nat} (h : lst p (n + 1) k = N) (hp : p k = true) : k = N := by rw [lst, if_pos hp] at h; exact h

theorem lst_next {p : Nat → Bool} {n k N : Nat} (h : lst p (n + 1) k = N) (hp : ¬ p k = true) : lst p n (k + 1) = N := by rw [lst, if_neg hp] at h; exact h

/-! ### DoublingYears -/

def dyP (r : Int) (k : Nat) : Bool := decide (2000000 ≤ grow 1000000 r k)

def dyN (r : Int) : Nat := lst (dyP r) 121 0

def dyV (r : Int) : Int := if rateB r then (if dyN r < 121 then dyN r else 0) else 0

def dyE (r : Int) : Int := if rateB r then (if dyN r < 121 then 0 else 4) else 2

theorem dy_yes {r : Int} {k : Nat} (h : rateB r = true) (hk : k = dyN r) (hl : k < 121) : (k : Int) = dyV r ∧ 0 = dyE r := by
  subst hk; simp [dyV, dyE, h, hl]

theorem dy_no {r : Int} (h : rateB r = true) (hk : 121 = dyN r) : 0 = dyV r ∧ 4 = dyE r := by
  simp [dyV, dyE, h, ← hk]

theorem dy_spec (r : Int) (w : World) : Calls Try.prog 39 #[.int .i64 r] w fun e w' => e = .returned (.tuple #[.int .i64 (dyV r), .int .i64 (dyE r)]) ∧ w = w' := by
  by_cases h : rateB r = true
  · obtain ⟨r0, r1⟩ := (inB_iff _ _ _).1 h
    have H := Lib.hid h
    go_enter Try.func39, Try.ntmps39
    go_wp2_with (go_at_call 51; refine (sRate_any _ _).mono ?_; rintro e w' ⟨rfl, rfl⟩)
    go_loopw [4] (fun i wr => ∃ j : Nat, j ≤ 121 ∧ i = .int .i64 j ∧ Hid (lst (dyP r) (121 - j) j = dyN r) ∧ wr = w) (fun i _ => 121 - (intOf i).toNat)
    case atStart => exact ⟨0, by omega, rfl, Lib.hid rfl, rfl⟩
    case round =>
      obtain ⟨j, hj, rfl, HL, rfl⟩ := hrel
      by_cases hlt : j ≤ 120
      · have hc := fun w => sgrow_any 1000000 r j w (by omega) (by omega) r0 r1 (by omega)
        obtain ⟨g, hg⟩ : ∃ g, grow 1000000 r j = g := ⟨_, rfl⟩
        rw [hg] at hc
        have HL2 : Hid (lst (dyP r) (120 - j + 1) j = dyN r) := Lib.hid (by have := HL.out; rw [show 121 - j = 120 - j + 1 by omega] at this; exact this)
        have HG := Lib.hid hg
        clear hg HL
        by_cases hm : 2000000 ≤ g
        · have HM := Lib.hid hm
          go_wp2_with (go_at_call 68; refine (hc _).mono ?_; rintro e w' ⟨rfl, rfl⟩)
          go_ret2
          have := dy_yes H.out (lst_here HL2.out (by simp [dyP, HG.out, HM.out])) (by omega)
          exact ⟨ret_ii this.1 this.2, rfl⟩
        · have HM := Lib.hid hm
          go_wp2_with (go_at_call 68; refine (hc _).mono ?_; rintro e w' ⟨rfl, rfl⟩)
          go_roundw
          case rel => exact ⟨j + 1, by omega, by go_num, Lib.hid (by have := lst_next HL2.out (by simp [dyP, HG.out]; have := HM.out; omega); rw [show 121 - (j + 1) = 120 - j by omega]; exact this), by first | rfl | trivial⟩
          case measure => simp [intOf]; omega
      · go_wp2_with fail
        go_ret2
        obtain rfl : j = 121 := by omega
        have := dy_no H.out HL.out
        exact ⟨ret_ii this.1 this.2, rfl⟩
  · go_enter Try.func39, Try.ntmps39
    go_wp2_with (go_at_call 51; refine (sRate_any _ _).mono ?_; rintro e w' ⟨rfl, rfl⟩)
    go_ret2
    exact ⟨ret_ii (by simp [dyV, h]) (by simp [dyE, h]), rfl⟩

theorem dy_impl (r : Int) (w : World) : Calls Try.prog 38 #[.int .i64 r] w fun e w' => e = .returned (.tuple #[.int .i64 (dyV r), .int .i64 (dyE r)]) ∧ w = w' := by
  by_cases h : rateB r = true
  · obtain ⟨r0, r1⟩ := (inB_iff _ _ _).1 h
    have H := Lib.hid h
    go_enter Try.func38, Try.ntmps38
    go_wp2_with (go_at_call 48; refine (isRate_any _ _).mono ?_; rintro e w' ⟨rfl, rfl⟩)
    go_loopw [4, 9] (fun v i wr => ∃ j : Nat, j ≤ 121 ∧ i = .int .i64 j ∧ v = .int .i64 (grow 1000000 r j) ∧ (grow 1000000 r j ≤ 1000000000000) ∧ Hid (lst (dyP r) (121 - j) j = dyN r) ∧ wr = w) (fun _ i _ => 121 - (intOf i).toNat)
    case atStart => exact ⟨0, by omega, rfl, rfl, by simp [grow], Lib.hid rfl, rfl⟩
    case round =>
      obtain ⟨j, hj, rfl, rfl, hb, HL, rfl⟩ := hrel
      by_cases hlt : j < 121
      · obtain ⟨x, q, hx, hq, he, b0, b1, q0, q1, p0, p1, hw⟩ := grow_step 1000000 r (by omega) (by omega) r0 r1 j hb
        have hwi := fun w => wi_any x r w b0 b1 r0 r1
        simp only [hq] at hwi
        have HL2 : Hid (lst (dyP r) (120 - j + 1) j = dyN r) := Lib.hid (by have := HL.out; rw [show 121 - j = 120 - j + 1 by omega] at this; exact this)
        have HG := Lib.hid hx
        have HE := Lib.hid he
        rw [hx] at hb ⊢
        clear hx hq he hw HL
        by_cases hm : 2000000 ≤ x
        · have HM := Lib.hid hm
          go_wp2_with (go_at_call 69; refine (hwi _).mono ?_; rintro e w' ⟨rfl, rfl⟩)
          go_ret2
          have := dy_yes H.out (lst_here HL2.out (by simp [dyP, HG.out, HM.out])) (by omega)
          exact ⟨ret_ii this.1 this.2, rfl⟩
        · have HM := Lib.hid hm
          go_wp2_with (go_at_call 69; refine (hwi _).mono ?_; rintro e w' ⟨rfl, rfl⟩)
          go_roundw
          case rel => exact ⟨j + 1, by omega, by go_num, by first | (rw [HE.out]; go_num) | (rw [HE.out]), by rw [HE.out]; omega, Lib.hid (by have := lst_next HL2.out (by simp [dyP, HG.out]; have := HM.out; omega); rw [show 121 - (j + 1) = 120 - j by omega]; exact this), by first | rfl | trivial⟩
          case measure => simp [intOf]; omega
      · obtain rfl : j = 121 := by omega
        go_wp2_with fail
        go_ret2
        have := dy_no H.out HL.out
        exact ⟨ret_ii this.1 this.2, rfl⟩
  · go_enter Try.func38, Try.ntmps38
    go_wp2_with (go_at_call 48; refine (isRate_any _ _).mono ?_; rintro e w' ⟨rfl, rfl⟩)
    go_ret2
    exact ⟨ret_ii (by simp [dyV, h]) (by simp [dyE, h]), rfl⟩

/-! ### RateBetween -/

def rbB (a l n : Int) : Bool := amtB a && amtB l && termB n

def rbP (a l : Int) (n : Nat) (k : Nat) : Bool := decide (l ≤ grow a k n)

def rbN (a l n : Int) : Nat := lst (rbP a l n.toNat) 201 0

def rbV (a l n : Int) : Int := if rbB a l n then (if rbN a l n < 201 then rbN a l n else 0) else 0

def rbE (a l n : Int) : Int := if rbB a l n then (if rbN a l n < 201 then 0 else 4) else 2

theorem rbB_iff (a l n : Int) : rbB a l n = true ↔ (0 ≤ a ∧ a ≤ 1000000000) ∧ (0 ≤ l ∧ l ≤ 1000000000) ∧ (0 ≤ n ∧ n ≤ 120) := by
  unfold rbB amtB termB; rw [Bool.and_eq_true, Bool.and_eq_true, inB_iff, inB_iff, inB_iff, and_assoc]

theorem rb_yes {a l n : Int} {k : Nat} (h : rbB a l n = true) (hk : k = rbN a l n) (hl : k < 201) : (k : Int) = rbV a l n ∧ 0 = rbE a l n := by
  subst hk; simp [rbV, rbE, h, hl]

theorem rb_no {a l n : Int} (h : rbB a l n = true) (hk : 201 = rbN a l n) : 0 = rbV a l n ∧ 4 = rbE a l n := by
  simp [rbV, rbE, h, ← hk]

theorem rb_spec (a l n : Int) (w : World) : Calls Try.prog 33 #[.int .i64 a, .int .i64 l, .int .i64 n] w fun e w' => e = .returned (.tuple #[.int .i64 (rbV a l n), .int .i64 (rbE a l n)]) ∧ w = w' := by
  by_cases h : rbB a l n = true
  · obtain ⟨⟨a0, a1⟩, ⟨l0, l1⟩, ⟨n0, n1⟩⟩ := (rbB_iff _ _ _).1 h
    obtain ⟨y, rfl⟩ : ∃ y : Nat, n = y := ⟨n.toNat, by omega⟩
    have e1 : amtB a = true := inB_t a0 a1
    have e2 : amtB l = true := inB_t l0 l1
    have e3 : inB y 0 120 = true := inB_t n0 n1
    have H := Lib.hid h
    clear h
    go_enter Try.func33, Try.ntmps33
    go_wp2_with (first | (go_at_call 67; refine (sAmount_any _ _).mono ?_; rintro e w' ⟨rfl, rfl⟩) | (go_at_call 52; refine (in_any _ _ _ _).mono ?_; rintro e w' ⟨rfl, rfl⟩))
    go_loopw [8] (fun i wr => ∃ j : Nat, j ≤ 201 ∧ i = .int .i64 j ∧ Hid (lst (rbP a l y) (201 - j) j = rbN a l y) ∧ wr = w) (fun i _ => 201 - (intOf i).toNat)
    case atStart => exact ⟨0, by omega, rfl, Lib.hid rfl, rfl⟩
    case round =>
      obtain ⟨j, hj, rfl, HL, rfl⟩ := hrel
      by_cases hlt : j ≤ 200
      · have hc := fun w => sgrow_any a j y w a0 a1 (by omega) (by omega) (by omega)
        obtain ⟨g, hg⟩ : ∃ g, grow a j y = g := ⟨_, rfl⟩
        rw [hg] at hc
        have HL2 : Hid (lst (rbP a l y) (200 - j + 1) j = rbN a l y) := Lib.hid (by have := HL.out; rw [show 201 - j = 200 - j + 1 by omega] at this; exact this)
        have HG := Lib.hid hg
        clear hg HL
        by_cases hm : l ≤ g
        · have HM := Lib.hid hm
          go_wp2_with (go_at_call 68; refine (hc _).mono ?_; rintro e w' ⟨rfl, rfl⟩)
          go_ret2
          have := rb_yes H.out (lst_here HL2.out (by simp [rbP, HG.out, HM.out])) (by omega)
          exact ⟨ret_ii this.1 this.2, rfl⟩
        · have HM := Lib.hid hm
          go_wp2_with (go_at_call 68; refine (hc _).mono ?_; rintro e w' ⟨rfl, rfl⟩)
          go_roundw
          case rel => exact ⟨j + 1, by omega, by go_num, Lib.hid (by have := lst_next HL2.out (by simp [rbP, HG.out]; have := HM.out; omega); rw [show 201 - (j + 1) = 200 - j by omega]; exact this), by first | rfl | trivial⟩
          case measure => simp [intOf]; omega
      · go_wp2_with fail
        go_ret2
        obtain rfl : j = 201 := by omega
        have := rb_no H.out HL.out
        exact ⟨ret_ii this.1 this.2, rfl⟩
  · cases h1 : amtB a <;> cases h2 : amtB l <;> cases h3 : inB n 0 120
    case true.true.true => exact absurd (by simp [rbB, termB, h1, h2, h3]) h
    all_goals
      have H := Lib.hid h
      clear h
      go_enter Try.func33, Try.ntmps33
      go_wp2_with (first | (go_at_call 67; refine (sAmount_any _ _).mono ?_; rintro e w' ⟨rfl, rfl⟩) | (go_at_call 52; refine (in_any _ _ _ _).mono ?_; rintro e w' ⟨rfl, rfl⟩))
      go_ret2
      exact ⟨ret_ii (by simp [rbV, H.out]) (by simp [rbE, H.out]), rfl⟩

theorem rb_impl (a l n : Int) (w : World) : Calls Try.prog 32 #[.int .i64 a, .int .i64 l, .int .i64 n] w fun e w' => e = .returned (.tuple #[.int .i64 (rbV a l n), .int .i64 (rbE a l n)]) ∧ w = w' := by
  by_cases h : rbB a l n = true
  · obtain ⟨⟨a0, a1⟩, ⟨l0, l1⟩, ⟨n0, n1⟩⟩ := (rbB_iff _ _ _).1 h
    obtain ⟨y, rfl⟩ : ∃ y : Nat, n = y := ⟨n.toNat, by omega⟩
    have e1 : amtB a = true := inB_t a0 a1
    have e2 : amtB l = true := inB_t l0 l1
    have e3 : termB y = true := inB_t n0 n1
    have H := Lib.hid h
    clear h
    go_enter Try.func32, Try.ntmps32
    go_wp2_with (first | (go_at_call 56; refine (isAmount_any _ _).mono ?_; rintro e w' ⟨rfl, rfl⟩) | (go_at_call 49; refine (isTerm_any _ _).mono ?_; rintro e w' ⟨rfl, rfl⟩))
    go_loopw [24] (fun i wr => ∃ j : Nat, j ≤ 201 ∧ i = .int .i64 j ∧ Hid (lst (rbP a l y) (201 - j) j = rbN a l y) ∧ wr = w) (fun i _ => 201 - (intOf i).toNat)
    case atStart => exact ⟨0, by omega, rfl, Lib.hid rfl, rfl⟩
    case round =>
      obtain ⟨j, hj, rfl, HL, rfl⟩ := hrel
      by_cases hlt : j < 201
      · have hc := fun w => ga_impl a j y w
        have hga : gaB a j y = true := (gaB_iff _ _ _).2 ⟨⟨a0, a1⟩, ⟨by omega, by omega⟩, ⟨n0, n1⟩⟩
        obtain ⟨g, hg⟩ : ∃ g, grow a j y = g := ⟨_, rfl⟩
        have HL2 : Hid (lst (rbP a l y) (200 - j + 1) j = rbN a l y) := Lib.hid (by have := HL.out; rw [show 201 - j = 200 - j + 1 by omega] at this; exact this)
        have HG := Lib.hid hg
        have HA := Lib.hid hga
        clear hg HL hga
        by_cases hx : g ≤ 1000000000000
        · obtain ⟨hv, he⟩ := ga_yes HA.out HG.out hx
          rw [← hv, ← he] at hc
          clear hv he hx
          by_cases hm : l ≤ g
          · have HM := Lib.hid hm
            go_wp2_with (go_at_call 35; refine (hc _).mono ?_; rintro e w' ⟨rfl, rfl⟩)
            go_ret2
            have := rb_yes H.out (lst_here HL2.out (by simp [rbP, HG.out, HM.out])) (by omega)
            exact ⟨ret_ii this.1 this.2, rfl⟩
          · have HM := Lib.hid hm
            go_wp2_with (go_at_call 35; refine (hc _).mono ?_; rintro e w' ⟨rfl, rfl⟩)
            go_roundw
            case rel => exact ⟨j + 1, by omega, by go_num, Lib.hid (by have := lst_next HL2.out (by simp [rbP, HG.out]; have := HM.out; omega); rw [show 201 - (j + 1) = 200 - j by omega]; exact this), by first | rfl | trivial⟩
            case measure => simp [intOf]; omega
        · obtain ⟨hv, he⟩ := ga_no HA.out HG.out hx
          rw [← hv, ← he] at hc
          have HM : Hid (l ≤ g) := Lib.hid (by omega)
          clear hv he hx
          go_wp2_with (go_at_call 35; refine (hc _).mono ?_; rintro e w' ⟨rfl, rfl⟩)
          go_ret2
          have := rb_yes H.out (lst_here HL2.out (by simp [rbP, HG.out, HM.out])) (by omega)
          exact ⟨ret_ii this.1 this.2, rfl⟩
      · go_wp2_with fail
        go_ret2
        obtain rfl : j = 201 := by omega
        have := rb_no H.out HL.out
        exact ⟨ret_ii this.1 this.2, rfl⟩
  · cases h1 : amtB a <;> cases h2 : amtB l <;> cases h3 : termB n
    case true.true.true => exact absurd (by simp [rbB, h1, h2, h3]) h
    all_goals
      have H := Lib.hid h
      clear h
      go_enter Try.func32, Try.ntmps32
      go_wp2_with (first | (go_at_call 56; refine (isAmount_any _ _).mono ?_; rintro e w' ⟨rfl, rfl⟩) | (go_at_call 49; refine (isTerm_any _ _).mono ?_; rintro e w' ⟨rfl, rfl⟩))
      go_ret2
      exact ⟨ret_ii (by simp [rbV, H.out]) (by simp [rbE, H.out]), rfl⟩

end Go.Proofs.Ythennmhmnimpfaa

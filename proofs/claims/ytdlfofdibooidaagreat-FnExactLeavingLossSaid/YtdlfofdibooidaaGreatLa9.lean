/- Merged: Ann, Asu. -/
import Derived.Test.YtdlfofdibooidaaGreatLa4
import Derived.Test.YtdlfofdibooidaaGreatLa8
import Derived.Deep.RegionHeld3

/- Annuities: numbers, and the model's functions. | Annuities: the model's prices. (Written by wip/gen/annt.py.) -/
namespace Go.Proofs.YtdlfofdibooidaaGreat
open Go.ChangeShapes Go.WideShapes Go.ChangeAt Go.RowKit
set_option linter.unusedVariables false
set_option maxRecDepth 100000

/-- a product divided and rounded up -/
def upV (a b c : Int) : Int := a * b / c + (if 0 < a * b % c then 1 else 0)

theorem LTab.cD_le {f : Int} {xs : List Int} (h : LTab f xs) (r : Int) (r0 : 0 ≤ r) (k : Nat) : cD r xs (k + 1) ≤ cD r xs k :=
  Int.mul_le_mul (h.step k) (disc_le r r0 k) (disc_bd r r0 (k + 1)).1 (h.nonneg k)

theorem LTab.cD_mono {f : Int} {xs : List Int} (h : LTab f xs) (r : Int) (r0 : 0 ≤ r) (k n : Nat) : cD r xs (k + n) ≤ cD r xs k := by
  induction n with
  | zero => exact Int.le_refl _
  | succ n ih => exact Int.le_trans (h.cD_le r r0 (k + n)) ih

theorem LTab.cN_le {f : Int} {xs : List Int} (h : LTab f xs) (r : Int) (r0 : 0 ≤ r) (k : Nat) : cN r xs k ≤ 152 * cD r xs k := by
  have : ∀ n : Nat, fsum (cD r xs) k n ≤ n * cD r xs k := by
    intro n
    induction n with
    | zero => simp [fsum]
    | succ n ih =>
      rw [fsum]
      have := h.cD_mono r r0 k n
      rw [show ((n + 1 : Nat) : Int) * cD r xs k = (n : Int) * cD r xs k + cD r xs k by rw [Int.natCast_add, Int.add_mul]; omega]
      omega
  exact this 152

theorem LTab.cN_mono {f : Int} {xs : List Int} (h : LTab f xs) (r : Int) (r0 : 0 ≤ r) (k n : Nat) : cN r xs (k + n) ≤ cN r xs k := by
  induction n with
  | zero => exact Int.le_refl _
  | succ n ih =>
    have := h.cN_step r (k + n)
    have := (h.cD_bd r r0 (k + n)).1
    rw [show k + (n + 1) = k + n + 1 by omega]
    omega

theorem LTab.cN_ge {f : Int} {xs : List Int} (h : LTab f xs) (r : Int) (r0 : 0 ≤ r) (k : Nat) : cD r xs k ≤ cN r xs k := by
  have := h.cN_step r k
  have := (h.cN_bd r r0 (k + 1)).1
  omega

/-- a part of N, times an amount, over D -/
theorem LTab.quot {f : Int} {xs : List Int} (h : LTab f xs) (r : Int) (r0 : 0 ≤ r) (k : Nat) (u b : Int) (u0 : 0 ≤ u) (u1 : u ≤ cN r xs k) (hd : cD r xs k ≠ 0) (b0 : 0 ≤ b) (b1 : b ≤ 1000000) :
    u ≤ 1000000000000000000 ∧ 1 ≤ cD r xs k ∧ cD r xs k ≤ 1000000000000000000 ∧ b * u / cD r xs k ≤ 152000000 := by
  have e1 := (h.cN_bd r r0 k).2
  have e2 := h.cD_bd r r0 k
  have e3 := h.cN_le r r0 k
  refine ⟨by omega, by omega, by omega, ?_⟩
  have e4 : b * u ≤ b * (152 * cD r xs k) := Int.mul_le_mul_of_nonneg_left (by omega) b0
  have e5 : b * u / cD r xs k ≤ b * (152 * cD r xs k) / cD r xs k := Int.ediv_le_ediv (by omega) e4
  rw [← Int.mul_assoc, Int.mul_ediv_cancel _ hd] at e5
  omega

theorem upV_eq (a b c : Int) (hc : 1 ≤ c) : ∃ q r : Int, a * b / c = q ∧ a * b % c = r ∧ 0 ≤ r ∧ r < c ∧ (r = 0 → upV a b c = q) ∧ (0 < r → upV a b c = q + 1) := by
  refine ⟨_, _, rfl, rfl, Int.emod_nonneg _ (by omega), Int.emod_lt_of_pos _ (by omega), fun h => ?_, fun h => ?_⟩
  · unfold upV; rw [h]; simp
  · unfold upV; rw [if_pos h]

theorem sup_any (a b c : Int) (w : World) (a0 : 0 ≤ a) (a1 : a ≤ 1000000000000) (b0 : 0 ≤ b) (b1 : b ≤ 1000000000000000000) (c0 : 1 ≤ c) (c1 : c ≤ 1000000000000000000) (hq : a * b / c ≤ 100000000000000000) :
    Calls Tryz.prog 45 #[.int .i64 a, .int .i64 b, .int .i64 c] w fun e w' => e = .returned (.int .i64 (upV a b c)) ∧ w = w' := by
  have HC := Lib.hid (fun W => sdiv_any a b c W a0 a1 b0 b1 c0 c1)
  obtain ⟨e1, e2⟩ := md_small a b c (by omega)
  rw [e1, e2] at HC
  obtain ⟨q, r, hq1, hr1, r0, r1, g1, g2⟩ := upV_eq a b c c0
  have q0 : 0 ≤ q := by rw [← hq1]; exact Int.ediv_nonneg (Int.mul_nonneg a0 b0) (by omega)
  rw [hq1, hr1] at HC
  rw [hq1] at hq
  clear e1 e2 hq1 hr1
  by_cases hz : r = 0
  · have G := Lib.hid (g1 hz)
    subst hz
    clear g1 g2
    go_enter Tryz.func45, Tryz.ntmps45
    go_wp2_with (go_at_call 38; refine (HC.out _).mono ?_; rintro e w' ⟨rfl, rfl⟩)
    go_ret
    exact ⟨ret_int (by rw [G.out]), rfl⟩
  · have h1 : 1 ≤ r := by omega
    have G := Lib.hid (g2 (by omega))
    clear g1 g2
    go_enter Tryz.func45, Tryz.ntmps45
    go_wp2_with (go_at_call 38; refine (HC.out _).mono ?_; rintro e w' ⟨rfl, rfl⟩)
    go_ret
    exact ⟨ret_int (by rw [G.out]), rfl⟩

/-- the code of an annuity: b: is the amount right? -/
def anE (r f : Int) (xs : List Int) (x : Int) (b : Bool) (n : Int) : Int :=
  if coE r f xs x = 0 then (if b = true ∧ (0 ≤ n ∧ n ≤ 120) ∧ x + n ≤ 150 then (if cD r xs (x - f).toNat = 0 then 5 else 0) else 2) else coE r f xs x

theorem anE_iff {r f : Int} {xs : List Int} {x : Int} {b : Bool} {n : Int} : anE r f xs x b n = 0 ↔ coE r f xs x = 0 ∧ b = true ∧ (0 ≤ n ∧ n ≤ 120) ∧ x + n ≤ 150 ∧ cD r xs (x - f).toNat ≠ 0 := by
  unfold anE
  by_cases h1 : coE r f xs x = 0
  · by_cases h2 : b = true ∧ (0 ≤ n ∧ n ≤ 120) ∧ x + n ≤ 150
    · rw [if_pos h1, if_pos h2]
      by_cases h3 : cD r xs (x - f).toNat = 0
      · simp [h3]
      · simp [h3, h1, h2]
    · rw [if_pos h1, if_neg h2]
      constructor
      · intro h; omega
      · rintro ⟨_, a, b, c, _⟩; exact absurd ⟨a, b, c⟩ h2
  · rw [if_neg h1]
    constructor
    · intro h; exact absurd h h1
    · rintro ⟨h, _⟩; exact absurd h h1

theorem inB_no {x a b : Int} (h : ¬ (a ≤ x ∧ x ≤ b)) : inB x a b = false := by
  cases hc : inB x a b
  · rfl
  · exact absurd ((inB_iff _ _ _).1 hc) h

set_option maxHeartbeats 400000 in
theorem ancode_any (r f : Int) (xs : List Int) (a : Option Addr) (l c : Nat) (x : Int) (b : Bool) (n : Int) (w : World) (h : Ints w a l xs) :
    Calls Tryz.prog 116 #[.agg #[.int .i64 f, .slice a l c], .int .i64 r, .int .i64 x, .bool b, .int .i64 n] w fun e w' => e = .returned (.int .i64 (anE r f xs x b n)) ∧ Below w.heap.size w w' := by
  have H := Lib.hid h
  have CO : Hid (∀ W, Hid (Below w.heap.size w W) → Calls Tryz.prog 130 #[.agg #[.int .i64 f, .slice a l c], .int .i64 r, .int .i64 x] W fun e w' => e = .returned (.int .i64 (coE r f xs x)) ∧ Below W.heap.size W w') :=
    Lib.hid (fun W hW => scode_any r f xs a l c x W (H.out.on hW.out))
  clear h
  by_cases hz : coE r f xs x = 0
  · obtain ⟨ht, ⟨r0, r1⟩, x0, x1⟩ := coE_iff.1 hz
    obtain ⟨f0, f1⟩ := ht.1
    have CD : Hid (∀ W, Hid (Below w.heap.size w W) → Calls Tryz.prog 43 #[.agg #[.int .i64 f, .slice a l c], .int .i64 r, .int .i64 x] W fun e w' => e = .returned (.int .i64 (cD r xs (x - f).toNat)) ∧ Below W.heap.size W w') :=
      Lib.hid (fun W hW => sD_any r f xs a l c x W (H.out.on hW.out) ht r0 r1 x0 (by omega))
    rw [hz] at CO
    by_cases hok : b = true ∧ (0 ≤ n ∧ n ≤ 120) ∧ x + n ≤ 150
    · have HR : Hid (anE r f xs x b n = if cD r xs (x - f).toNat = 0 then 5 else 0) := Lib.hid (by unfold anE; rw [if_pos hz, if_pos hok])
      obtain ⟨rfl, ⟨n0, n1⟩, hn⟩ := hok
      have hin : inB n 0 120 = true := (inB_iff _ _ _).2 ⟨n0, n1⟩
      obtain ⟨D, hD⟩ : ∃ D, cD r xs (x - f).toNat = D := ⟨_, rfl⟩
      rw [hD] at CD HR
      clear hD hz ht
      by_cases hd : D = 0
      · subst hd
        go_enter Tryz.func116, Tryz.ntmps116
        go_wp2_with fail
        with_reducible refine (CO.out _ (Lib.hid (box_b _ _))).mono ?_
        rintro e w1 ⟨rfl, hb⟩
        obtain ⟨hB, hc0, hc1⟩ := box2 hb
        have HB := Lib.hid hB
        clear hB hb
        go_wp2_with (go_at_call 82; refine (in_any _ _ _ _).mono ?_; rintro e w' ⟨rfl, rfl⟩)
        with_reducible refine (CD.out _ HB).mono ?_
        rintro e w2 ⟨rfl, hb⟩
        have HB2 := Lib.hid (HB.out.trans (hb.mono HB.out.size))
        clear hb
        go_wp2_with fail
        go_ret
        exact ⟨ret_int (by rw [HR.out]; simp), HB2.out⟩
      · have hd2 : (D == 0) = false := by simp [hd]
        have HR2 : Hid (anE r f xs x true n = 0) := Lib.hid (by rw [HR.out, if_neg hd])
        clear hd HR
        go_enter Tryz.func116, Tryz.ntmps116
        go_wp2_with fail
        with_reducible refine (CO.out _ (Lib.hid (box_b _ _))).mono ?_
        rintro e w1 ⟨rfl, hb⟩
        obtain ⟨hB, hc0, hc1⟩ := box2 hb
        have HB := Lib.hid hB
        clear hB hb
        go_wp2_with (go_at_call 82; refine (in_any _ _ _ _).mono ?_; rintro e w' ⟨rfl, rfl⟩)
        with_reducible refine (CD.out _ HB).mono ?_
        rintro e w2 ⟨rfl, hb⟩
        have HB2 := Lib.hid (HB.out.trans (hb.mono HB.out.size))
        clear hb
        go_wp2_with fail
        go_ret
        exact ⟨ret_int HR2.out.symm, HB2.out⟩
    · have HR : Hid (anE r f xs x b n = 2) := Lib.hid (by unfold anE; rw [if_pos hz, if_neg hok])
      clear hz ht CD
      cases b
      · go_enter Tryz.func116, Tryz.ntmps116
        go_wp2_with fail
        with_reducible refine (CO.out _ (Lib.hid (box_b _ _))).mono ?_
        rintro e w1 ⟨rfl, hb⟩
        obtain ⟨hB, hc0, hc1⟩ := box2 hb
        have HB := Lib.hid hB
        clear hB hb
        go_wp2_with fail
        go_ret
        exact ⟨ret_int HR.out.symm, HB.out⟩
      · by_cases hn : 0 ≤ n ∧ n ≤ 120
        · have hin : inB n 0 120 = true := (inB_iff _ _ _).2 hn
          have hx : 150 < x + n := by simp [hn] at hok; omega
          obtain ⟨n0, n1⟩ := hn
          clear hok
          go_enter Tryz.func116, Tryz.ntmps116
          go_wp2_with fail
          with_reducible refine (CO.out _ (Lib.hid (box_b _ _))).mono ?_
          rintro e w1 ⟨rfl, hb⟩
          obtain ⟨hB, hc0, hc1⟩ := box2 hb
          have HB := Lib.hid hB
          clear hB hb
          go_wp2_with (go_at_call 82; refine (in_any _ _ _ _).mono ?_; rintro e w' ⟨rfl, rfl⟩)
          go_ret
          exact ⟨ret_int HR.out.symm, HB.out⟩
        · have hin : inB n 0 120 = false := inB_no hn
          clear hok hn
          go_enter Tryz.func116, Tryz.ntmps116
          go_wp2_with fail
          with_reducible refine (CO.out _ (Lib.hid (box_b _ _))).mono ?_
          rintro e w1 ⟨rfl, hb⟩
          obtain ⟨hB, hc0, hc1⟩ := box2 hb
          have HB := Lib.hid hB
          clear hB hb
          go_wp2_with (go_at_call 82; refine (in_any _ _ _ _).mono ?_; rintro e w' ⟨rfl, rfl⟩)
          go_ret
          exact ⟨ret_int HR.out.symm, HB.out⟩
  · have HR : Hid (anE r f xs x b n = coE r f xs x) := Lib.hid (by unfold anE; rw [if_neg hz])
    obtain ⟨E, hE⟩ : ∃ E, coE r f xs x = E := ⟨_, rfl⟩
    rw [hE] at CO HR hz
    have hne : (E != 0) = true := by simp [hz]
    clear hE hz
    go_enter Tryz.func116, Tryz.ntmps116
    go_wp2_with fail
    with_reducible refine (CO.out _ (Lib.hid (box_b _ _))).mono ?_
    rintro e w1 ⟨rfl, hb⟩
    obtain ⟨hB, hc0, hc1⟩ := box2 hb
    have HB := Lib.hid hB
    clear hB hb
    go_wp2_with fail
    go_ret
    exact ⟨ret_int HR.out.symm, HB.out⟩

def lifeV (r f : Int) (xs : List Int) (x b : Int) : Int := if anE r f xs x (inB b 1 1000000) 0 = 0 then upV b (cN r xs (x - f).toNat) (cD r xs (x - f).toNat) else 0

def termV (r f : Int) (xs : List Int) (x b n : Int) : Int := if anE r f xs x (inB b 1 1000000) n = 0 then upV b (cN r xs (x - f).toNat - cN r xs (x + n - f).toNat) (cD r xs (x - f).toNat) else 0

def lateV (r f : Int) (xs : List Int) (x b n : Int) : Int := if anE r f xs x (inB b 1 1000000) n = 0 then upV b (cN r xs (x + n - f).toNat) (cD r xs (x - f).toNat) else 0

def sureV (r f : Int) (xs : List Int) (x b n : Int) : Int := if anE r f xs x (inB b 1 1000000) n = 0 then upV b (dsum r 0 n.toNat) 1000000000 + upV b (cN r xs (x + n - f).toNat) (cD r xs (x - f).toNat) else 0

def amtV (r f : Int) (xs : List Int) (x p : Int) : Int := if anE r f xs x (inB p 1 1000000000) 0 = 0 then p * cD r xs (x - f).toNat / cN r xs (x - f).toNat else 0

def IIPost (v E : Int) (w : World) (e : Ending) (w' : World) : Prop := e = .returned (.tuple #[.int .i64 v, .int .i64 E]) ∧ Below w.heap.size w w'

theorem cell_drew {w : World} {p : Addr} {v : Value} (h : w.cell? p = some v) : w.drew.cell? p = some v := h

/-- a part of N, n years later -/
theorem LTab.late {f : Int} {xs : List Int} (h : LTab f xs) (r : Int) (r0 : 0 ≤ r) (x n : Int) (x0 : f ≤ x) (n0 : 0 ≤ n) : 0 ≤ cN r xs (x + n - f).toNat ∧ cN r xs (x + n - f).toNat ≤ cN r xs (x - f).toNat := by
  refine ⟨(h.cN_bd r r0 _).1, ?_⟩
  have := h.cN_mono r r0 (x - f).toNat n.toNat
  rw [show (x - f).toNat + n.toNat = (x + n - f).toNat by omega] at this
  exact this

theorem upV_bd (a b c m : Int) (h0 : 0 ≤ a) (h1 : 0 ≤ b) (h2 : 1 ≤ c) (hq : a * b / c ≤ m) : 0 ≤ upV a b c ∧ upV a b c ≤ m + 1 := by
  have := Int.ediv_nonneg (Int.mul_nonneg h0 h1) (show 0 ≤ c by omega)
  unfold upV
  split <;> omega

theorem sure_q (r b : Int) (n : Int) (r0 : 0 ≤ r) (n0 : 0 ≤ n) (n1 : n ≤ 120) (b0 : 0 ≤ b) (b1 : b ≤ 1000000) : 0 ≤ dsum r 0 n.toNat ∧ dsum r 0 n.toNat ≤ 120000000000 ∧ b * dsum r 0 n.toNat / 1000000000 ≤ 120000000 := by
  obtain ⟨d0, d1⟩ := dsum_bd r r0 0 n.toNat
  refine ⟨d0, by omega, ?_⟩
  have e : b * dsum r 0 n.toNat ≤ 1000000 * 120000000000 := Int.mul_le_mul b1 (by omega) d0 (by omega)
  omega

end Go.Proofs.YtdlfofdibooidaaGreat

/- Assurances: numbers, the model's code, numerators and denominators. (Written by wip/gen/asu.py.) | Assurances: the model's prices, level premiums, sums, fractions, parts. (Written by wip/gen/asv.py.) -/
namespace Go.Proofs.YtdlfofdibooidaaGreat
open Go.ChangeShapes Go.WideShapes Go.ChangeAt Go.RowKit
set_option linter.unusedVariables false
set_option maxRecDepth 100000

/-- do a kind and a number of years belong together? -/
def fitB (k n : Int) : Bool := inB k 0 3 && (decide (k = 0) == decide (n = 0))

/-- the numerator of the value of an assurance -/
def asT (r f : Int) (xs : List Int) (k x n : Int) : Int :=
  if k = 0 then cM r xs (x - f).toNat else if k = 1 then cM r xs (x - f).toNat - cM r xs (x + n - f).toNat else if k = 2 then cM r xs (x - f).toNat - cM r xs (x + n - f).toNat + cD r xs (x + n - f).toNat else cD r xs (x + n - f).toNat

/-- the payments of a level premium -/
def asB (r f : Int) (xs : List Int) (k x n : Int) : Int := if k = 0 then cN r xs (x - f).toNat else cN r xs (x - f).toNat - cN r xs (x + n - f).toNat

theorem LTab.cCD {f : Int} {xs : List Int} (h : LTab f xs) (r : Int) (r0 : 0 ≤ r) (k : Nat) : cC r xs k + cD r xs (k + 1) ≤ cD r xs k := by
  have e := Int.mul_le_mul_of_nonneg_left (disc_le r r0 k) (h.nonneg k)
  unfold cC cD
  rw [Int.sub_mul]
  omega

theorem LTab.cM_D {f : Int} {xs : List Int} (h : LTab f xs) (r : Int) (r0 : 0 ≤ r) (k n : Nat) : cM r xs k - cM r xs (k + n) + cD r xs (k + n) ≤ cD r xs k := by
  induction n with
  | zero => simp
  | succ n ih =>
    have e := h.cM_step r (k + n)
    have c := h.cCD r r0 (k + n)
    rw [show k + (n + 1) = k + n + 1 by omega]
    omega

theorem LTab.cM_mono {f : Int} {xs : List Int} (h : LTab f xs) (r : Int) (r0 : 0 ≤ r) (k n : Nat) : cM r xs (k + n) ≤ cM r xs k := by
  induction n with
  | zero => exact Int.le_refl _
  | succ n ih =>
    have := h.cM_step r (k + n)
    have := (h.cC_bd r r0 (k + n)).1
    rw [show k + (n + 1) = k + n + 1 by omega]
    omega

theorem LTab.cM_le {f : Int} {xs : List Int} (h : LTab f xs) (r : Int) (r0 : 0 ≤ r) (k : Nat) : cM r xs k ≤ cD r xs k := by
  have e := h.cM_D r r0 k 152
  have e2 := h.cM_far r (k + 152) (by have := h.short; omega)
  have e3 := (h.cD_bd r r0 (k + 152)).1
  omega

/-- the columns n years later -/
theorem LTab.off {f : Int} {xs : List Int} (h : LTab f xs) (r : Int) (r0 : 0 ≤ r) (x n : Int) (x0 : f ≤ x) (n0 : 0 ≤ n) :
    (0 ≤ cM r xs (x + n - f).toNat ∧ cM r xs (x + n - f).toNat ≤ cM r xs (x - f).toNat ∧ cM r xs (x - f).toNat ≤ cD r xs (x - f).toNat) ∧ (0 ≤ cD r xs (x + n - f).toNat ∧ cD r xs (x + n - f).toNat ≤ cD r xs (x - f).toNat ∧ cD r xs (x - f).toNat ≤ 1000000000000000) ∧ cM r xs (x - f).toNat - cM r xs (x + n - f).toNat + cD r xs (x + n - f).toNat ≤ cD r xs (x - f).toNat := by
  have e : (x + n - f).toNat = (x - f).toNat + n.toNat := by omega
  rw [e]
  exact ⟨⟨(h.cM_bd r r0 _).1, h.cM_mono r r0 _ _, h.cM_le r r0 _⟩, ⟨(h.cD_bd r r0 _).1, h.cD_mono r r0 _ _, (h.cD_bd r r0 _).2⟩, h.cM_D r r0 _ _⟩

theorem LTab.top {f : Int} {xs : List Int} (h : LTab f xs) (r : Int) (r0 : 0 ≤ r) (k x n : Int) (x0 : f ≤ x) (n0 : 0 ≤ n) : 0 ≤ asT r f xs k x n ∧ asT r f xs k x n ≤ cD r xs (x - f).toNat ∧ cD r xs (x - f).toNat ≤ 1000000000000000 := by
  obtain ⟨⟨a1, a2, a3⟩, ⟨b1, b2, b3⟩, c1⟩ := h.off r r0 x n x0 n0
  unfold asT
  split
  · omega
  · split
    · omega
    · split <;> omega

theorem LTab.bot {f : Int} {xs : List Int} (h : LTab f xs) (r : Int) (r0 : 0 ≤ r) (k x n : Int) (x0 : f ≤ x) (n0 : 0 ≤ n) (hk : k ≠ 0 → 1 ≤ n) : cD r xs (x - f).toNat ≤ asB r f xs k x n ∧ asB r f xs k x n ≤ 152000000000000000 := by
  have e1 := (h.cN_bd r r0 (x - f).toNat).2
  have e2 := h.cN_ge r r0 (x - f).toNat
  unfold asB
  split
  · omega
  · rename_i hz
    have hn := hk hz
    have e3 := h.cN_step r (x - f).toNat
    have e4 := h.cN_mono r r0 ((x - f).toNat + 1) (n.toNat - 1)
    rw [show (x - f).toNat + 1 + (n.toNat - 1) = (x + n - f).toNat by omega] at e4
    have e5 := (h.cN_bd r r0 (x + n - f).toNat).1
    omega

theorem fitB_iff {k n : Int} : fitB k n = true ↔ (0 ≤ k ∧ k ≤ 3) ∧ (k = 0 ↔ n = 0) := by
  unfold fitB
  rw [← inB_iff]
  cases inB k 0 3
  · simp
  · by_cases h1 : k = 0 <;> by_cases h2 : n = 0 <;> simp [h1, h2]

/-- a part of a number, times an amount, over the number -/
theorem quot_le (b u v : Int) (b0 : 0 ≤ b) (h : u ≤ v) (v1 : 1 ≤ v) : b * u / v ≤ b := by
  have h1 : b * u ≤ b * v := Int.mul_le_mul_of_nonneg_left h b0
  have h2 : b * u / v ≤ b * v / v := Int.ediv_le_ediv (by omega) h1
  rw [Int.mul_ediv_cancel _ (by omega)] at h2
  exact h2

theorem ssum_any (n : Int) (w : World) : Calls Tryz.prog 84 #[.int .i64 n] w fun e w' => e = .returned (.bool (inB n 1 100000000)) ∧ w = w' := by
  go_enter Tryz.func84, Tryz.ntmps84
  go_wp2_with (go_at_call 82; refine (in_any _ _ _ _).mono ?_; rintro e w' ⟨rfl, rfl⟩)
  go_ret
  exact ⟨rfl, rfl⟩

set_option maxHeartbeats 1000000 in
theorem ascode_any (r f : Int) (xs : List Int) (a : Option Addr) (l c : Nat) (k x n : Int) (b : Bool) (w : World) (h : Ints w a l xs) :
    Calls Tryz.prog 83 #[.agg #[.int .i64 f, .slice a l c], .int .i64 r, .int .i64 k, .int .i64 x, .int .i64 n, .bool b] w fun e w' => e = .returned (.int .i64 (anE r f xs x (b && fitB k n) n)) ∧ Below w.heap.size w w' := by
  have H := Lib.hid h
  have CA : Hid (∀ B W, Hid (Below w.heap.size w W) → Calls Tryz.prog 116 #[.agg #[.int .i64 f, .slice a l c], .int .i64 r, .int .i64 x, .bool B, .int .i64 n] W fun e w' => e = .returned (.int .i64 (anE r f xs x B n)) ∧ Below W.heap.size W w') :=
    Lib.hid (fun B W hW => ancode_any r f xs a l c x B n W (H.out.on hW.out))
  clear h
  by_cases hk : inB k 0 3 = true
  · by_cases h1 : k = 0
    · subst h1
      by_cases h2 : n = 0
      · subst h2
        cases b
        · have HF : Hid ((false && fitB 0 0) = false) := Lib.hid (by unfold fitB; rw [hk]; simp)
          go_enter Tryz.func83, Tryz.ntmps83
          go_wp2_with (go_at_call 82; refine (in_any _ _ _ _).mono ?_; rintro e w' ⟨rfl, rfl⟩)
          with_reducible refine (CA.out _ _ (Lib.hid (box_b _ _))).mono ?_
          rintro e w1 ⟨rfl, hb⟩
          obtain ⟨hB, hc0, hc1⟩ := box2 hb
          have HB := Lib.hid hB
          clear hB hb
          go_wp2_with fail
          go_ret
          exact ⟨ret_int (by rw [HF.out]), HB.out⟩
        · have HF : Hid ((true && fitB 0 0) = true) := Lib.hid (by unfold fitB; rw [hk]; simp)
          go_enter Tryz.func83, Tryz.ntmps83
          go_wp2_with (go_at_call 82; refine (in_any _ _ _ _).mono ?_; rintro e w' ⟨rfl, rfl⟩)
          with_reducible refine (CA.out _ _ (Lib.hid (box_b _ _))).mono ?_
          rintro e w1 ⟨rfl, hb⟩
          obtain ⟨hB, hc0, hc1⟩ := box2 hb
          have HB := Lib.hid hB
          clear hB hb
          go_wp2_with fail
          go_ret
          exact ⟨ret_int (by rw [HF.out]), HB.out⟩
      · have hn1 : (n == 0) = false := by simp [h2]
        cases b
        · have HF : Hid ((false && fitB 0 n) = false) := Lib.hid (by unfold fitB; rw [hk]; simp)
          clear h2
          go_enter Tryz.func83, Tryz.ntmps83
          go_wp2_with (go_at_call 82; refine (in_any _ _ _ _).mono ?_; rintro e w' ⟨rfl, rfl⟩)
          with_reducible refine (CA.out _ _ (Lib.hid (box_b _ _))).mono ?_
          rintro e w1 ⟨rfl, hb⟩
          obtain ⟨hB, hc0, hc1⟩ := box2 hb
          have HB := Lib.hid hB
          clear hB hb
          go_wp2_with fail
          go_ret
          exact ⟨ret_int (by rw [HF.out]), HB.out⟩
        · have HF : Hid ((true && fitB 0 n) = false) := Lib.hid (by unfold fitB; rw [hk]; simp [h2])
          clear h2
          go_enter Tryz.func83, Tryz.ntmps83
          go_wp2_with (go_at_call 82; refine (in_any _ _ _ _).mono ?_; rintro e w' ⟨rfl, rfl⟩)
          with_reducible refine (CA.out _ _ (Lib.hid (box_b _ _))).mono ?_
          rintro e w1 ⟨rfl, hb⟩
          obtain ⟨hB, hc0, hc1⟩ := box2 hb
          have HB := Lib.hid hB
          clear hB hb
          go_wp2_with fail
          go_ret
          exact ⟨ret_int (by rw [HF.out]), HB.out⟩
    · have hk1 : (k == 0) = false := by simp [h1]
      by_cases h2 : n = 0
      · subst h2
        cases b
        · have HF : Hid ((false && fitB k 0) = false) := Lib.hid (by unfold fitB; rw [hk]; simp)
          clear h1
          go_enter Tryz.func83, Tryz.ntmps83
          go_wp2_with (go_at_call 82; refine (in_any _ _ _ _).mono ?_; rintro e w' ⟨rfl, rfl⟩)
          with_reducible refine (CA.out _ _ (Lib.hid (box_b _ _))).mono ?_
          rintro e w1 ⟨rfl, hb⟩
          obtain ⟨hB, hc0, hc1⟩ := box2 hb
          have HB := Lib.hid hB
          clear hB hb
          go_wp2_with fail
          go_ret
          exact ⟨ret_int (by rw [HF.out]), HB.out⟩
        · have HF : Hid ((true && fitB k 0) = false) := Lib.hid (by unfold fitB; rw [hk]; simp [h1])
          clear h1
          go_enter Tryz.func83, Tryz.ntmps83
          go_wp2_with (go_at_call 82; refine (in_any _ _ _ _).mono ?_; rintro e w' ⟨rfl, rfl⟩)
          with_reducible refine (CA.out _ _ (Lib.hid (box_b _ _))).mono ?_
          rintro e w1 ⟨rfl, hb⟩
          obtain ⟨hB, hc0, hc1⟩ := box2 hb
          have HB := Lib.hid hB
          clear hB hb
          go_wp2_with fail
          go_ret
          exact ⟨ret_int (by rw [HF.out]), HB.out⟩
      · have hn1 : (n == 0) = false := by simp [h2]
        cases b
        · have HF : Hid ((false && fitB k n) = false) := Lib.hid (by unfold fitB; rw [hk]; simp)
          clear h1
          clear h2
          go_enter Tryz.func83, Tryz.ntmps83
          go_wp2_with (go_at_call 82; refine (in_any _ _ _ _).mono ?_; rintro e w' ⟨rfl, rfl⟩)
          with_reducible refine (CA.out _ _ (Lib.hid (box_b _ _))).mono ?_
          rintro e w1 ⟨rfl, hb⟩
          obtain ⟨hB, hc0, hc1⟩ := box2 hb
          have HB := Lib.hid hB
          clear hB hb
          go_wp2_with fail
          go_ret
          exact ⟨ret_int (by rw [HF.out]), HB.out⟩
        · have HF : Hid ((true && fitB k n) = true) := Lib.hid (by unfold fitB; rw [hk]; simp [h1, h2])
          clear h1
          clear h2
          go_enter Tryz.func83, Tryz.ntmps83
          go_wp2_with (go_at_call 82; refine (in_any _ _ _ _).mono ?_; rintro e w' ⟨rfl, rfl⟩)
          with_reducible refine (CA.out _ _ (Lib.hid (box_b _ _))).mono ?_
          rintro e w1 ⟨rfl, hb⟩
          obtain ⟨hB, hc0, hc1⟩ := box2 hb
          have HB := Lib.hid hB
          clear hB hb
          go_wp2_with fail
          go_ret
          exact ⟨ret_int (by rw [HF.out]), HB.out⟩
  · have hk2 : inB k 0 3 = false := by simpa using hk
    have HF : Hid ((b && fitB k n) = false) := Lib.hid (by unfold fitB; rw [hk2]; simp)
    clear hk
    cases b
    · go_enter Tryz.func83, Tryz.ntmps83
      go_wp2_with (go_at_call 82; refine (in_any _ _ _ _).mono ?_; rintro e w' ⟨rfl, rfl⟩)
      with_reducible refine (CA.out _ _ (Lib.hid (box_b _ _))).mono ?_
      rintro e w1 ⟨rfl, hb⟩
      obtain ⟨hB, hc0, hc1⟩ := box2 hb
      have HB := Lib.hid hB
      clear hB hb
      go_wp2_with fail
      go_ret
      exact ⟨ret_int (by rw [HF.out]), HB.out⟩
    · go_enter Tryz.func83, Tryz.ntmps83
      go_wp2_with (go_at_call 82; refine (in_any _ _ _ _).mono ?_; rintro e w' ⟨rfl, rfl⟩)
      with_reducible refine (CA.out _ _ (Lib.hid (box_b _ _))).mono ?_
      rintro e w1 ⟨rfl, hb⟩
      obtain ⟨hB, hc0, hc1⟩ := box2 hb
      have HB := Lib.hid hB
      clear hB hb
      go_wp2_with fail
      go_ret
      exact ⟨ret_int (by rw [HF.out]), HB.out⟩

set_option maxHeartbeats 4000000 in
theorem stop_any (r f : Int) (xs : List Int) (a : Option Addr) (l c : Nat) (k x n : Int) (w : World) (h : Ints w a l xs) (ht : LTab f xs) (r0 : 0 ≤ r) (r1 : r ≤ 200) (x0 : f ≤ x) (n0 : 0 ≤ n) (n1 : n ≤ 120) (xn : x + n ≤ 150) :
    Calls Tryz.prog 46 #[.agg #[.int .i64 f, .slice a l c], .int .i64 r, .int .i64 k, .int .i64 x, .int .i64 n] w fun e w' => e = .returned (.int .i64 (asT r f xs k x n)) ∧ Below w.heap.size w w' := by
  have H := Lib.hid h
  obtain ⟨f0, f1⟩ := ht.1
  have q6 : IntKind.i64.wrap (x + n) = x + n := IntWalk.i64_in _ (by omega)
  obtain ⟨⟨a1, a2, a3⟩, ⟨b1, b2, b3⟩, c1⟩ := ht.off r r0 x n x0 n0
  unfold asT
  by_cases k0 : k = 0
  · rw [if_pos k0]
    subst k0
    clear a1 a2 a3 b1 b2 b3 c1
    have C1 : Hid (∀ W, Hid (Below w.heap.size w W) → Calls Tryz.prog 74 #[.agg #[.int .i64 f, .slice a l c], .int .i64 r, .int .i64 x] W fun e w' => e = .returned (.int .i64 (cM r xs (x - f).toNat)) ∧ Below W.heap.size W w') :=
      Lib.hid (fun W hW => sM_any r f xs a l c x W (H.out.on hW.out) ht r0 r1 (by omega) (by omega))
    obtain ⟨M, hM⟩ : ∃ y_, cM r xs (x - f).toNat = y_ := ⟨_, rfl⟩
    rw [hM] at C1 ⊢
    clear hM
    clear h ht 
    go_enter Tryz.func46, Tryz.ntmps46
    go_wp2_with fail
    with_reducible refine (C1.out _ (Lib.hid (box_b _ _))).mono ?_
    rintro e w1 ⟨rfl, hb⟩
    obtain ⟨hB, hc0, hc1⟩ := box2 hb
    have HB := Lib.hid hB
    clear hB hb
    go_wp2_with fail
    go_ret
    exact ⟨rfl, HB.out⟩
  · rw [if_neg k0]
    have z0 : (k == 0) = false := by simp [k0]
    by_cases k1 : k = 1
    · rw [if_pos k1]
      subst k1
      clear b1 b2 c1
      have CM : Hid (∀ W, Hid (Below w.heap.size w W) → Calls Tryz.prog 74 #[.agg #[.int .i64 f, .slice a l c], .int .i64 r, .int .i64 x] W fun e w' => e = .returned (.int .i64 (cM r xs (x - f).toNat)) ∧ Below W.heap.size W w') :=
        Lib.hid (fun W hW => sM_any r f xs a l c x W (H.out.on hW.out) ht r0 r1 (by omega) (by omega))
      have CZ : Hid (∀ W, Hid (Below w.heap.size w W) → Calls Tryz.prog 74 #[.agg #[.int .i64 f, .slice a l c], .int .i64 r, .int .i64 (x + n)] W fun e w' => e = .returned (.int .i64 (cM r xs (x + n - f).toNat)) ∧ Below W.heap.size W w') :=
        Lib.hid (fun W hW => sM_any r f xs a l c (x + n) W (H.out.on hW.out) ht r0 r1 (by omega) (by omega))
      obtain ⟨M, hM⟩ : ∃ y_, cM r xs (x - f).toNat = y_ := ⟨_, rfl⟩
      rw [hM] at CM a2 a3 ⊢
      clear hM
      obtain ⟨Z, hZ⟩ : ∃ y_, cM r xs (x + n - f).toNat = y_ := ⟨_, rfl⟩
      rw [hZ] at CZ a1 a2 ⊢
      clear hZ
      have q5 : IntKind.i64.wrap (M - Z) = M - Z := IntWalk.i64_in _ (by omega)
      clear a1 a2 a3 b3
      clear h ht k0 z0
      go_enter Tryz.func46, Tryz.ntmps46
      go_wp2_with fail
      go_region_held3 (fun w' => w'.cell? ⟨w.heap.size, 0, none⟩ = some (.int .i64 f) ∧ w'.cell? ⟨w.heap.size, 1, none⟩ = some (.slice a l c) ∧ Hid (Below w.heap.size w w'))
          (first
            | (go_split_ands; exact ⟨by with_reducible assumption, by with_reducible assumption, by with_reducible assumption⟩)
            | (go_split_ands; exact ⟨by go_simp, by go_simp, Lib.hid (Below.drew (box_b _ _))⟩)
            | (go_split_ands; exact ⟨by go_simp, by go_simp, Lib.hid (box_b _ _)⟩)
            | (go_split_ands; exact ⟨cell_drew (by with_reducible assumption), cell_drew (by with_reducible assumption), Lib.hid (Below.drew (Hid.out (by with_reducible assumption)))⟩)
            | (go_split_ands; exact ⟨keep2 hb (by with_reducible assumption), keep2 hb (by with_reducible assumption), Lib.hid (Below.trans (Hid.out (by with_reducible assumption)) (Below.mono hb (Below.size (Hid.out (by with_reducible assumption)))))⟩)
            | fail)
          (first
            | (go_split_ands; go_at_call 74; ((with_reducible refine (CM.out _ (by with_reducible assumption)).mono ?_); rintro e w' ⟨rfl, hb⟩))
            | (go_split_ands; go_at_call 74; ((with_reducible refine (CZ.out _ (by with_reducible assumption)).mono ?_); rintro e w' ⟨rfl, hb⟩))
            | fail)
      all_goals
        go_split_ands
        go_wp2_with fail
        go_ret
        exact ⟨rfl, Hid.out (by with_reducible assumption)⟩
    · rw [if_neg k1]
      have z1 : (k == 1) = false := by simp [k1]
      by_cases k2 : k = 2
      · rw [if_pos k2]
        subst k2
        have CM : Hid (∀ W, Hid (Below w.heap.size w W) → Calls Tryz.prog 74 #[.agg #[.int .i64 f, .slice a l c], .int .i64 r, .int .i64 x] W fun e w' => e = .returned (.int .i64 (cM r xs (x - f).toNat)) ∧ Below W.heap.size W w') :=
          Lib.hid (fun W hW => sM_any r f xs a l c x W (H.out.on hW.out) ht r0 r1 (by omega) (by omega))
        have CZ : Hid (∀ W, Hid (Below w.heap.size w W) → Calls Tryz.prog 74 #[.agg #[.int .i64 f, .slice a l c], .int .i64 r, .int .i64 (x + n)] W fun e w' => e = .returned (.int .i64 (cM r xs (x + n - f).toNat)) ∧ Below W.heap.size W w') :=
          Lib.hid (fun W hW => sM_any r f xs a l c (x + n) W (H.out.on hW.out) ht r0 r1 (by omega) (by omega))
        have CD : Hid (∀ W, Hid (Below w.heap.size w W) → Calls Tryz.prog 43 #[.agg #[.int .i64 f, .slice a l c], .int .i64 r, .int .i64 (x + n)] W fun e w' => e = .returned (.int .i64 (cD r xs (x + n - f).toNat)) ∧ Below W.heap.size W w') :=
          Lib.hid (fun W hW => sD_any r f xs a l c (x + n) W (H.out.on hW.out) ht r0 r1 (by omega) (by omega))
        obtain ⟨M, hM⟩ : ∃ y_, cM r xs (x - f).toNat = y_ := ⟨_, rfl⟩
        rw [hM] at CM a2 a3 c1 ⊢
        clear hM
        obtain ⟨Z, hZ⟩ : ∃ y_, cM r xs (x + n - f).toNat = y_ := ⟨_, rfl⟩
        rw [hZ] at CZ a1 a2 c1 ⊢
        clear hZ
        obtain ⟨D, hD⟩ : ∃ y_, cD r xs (x + n - f).toNat = y_ := ⟨_, rfl⟩
        rw [hD] at CD b1 b2 c1 ⊢
        clear hD
        have q5 : IntKind.i64.wrap (M - Z) = M - Z := IntWalk.i64_in _ (by omega)
        have q7 : IntKind.i64.wrap (M - Z + D) = M - Z + D := IntWalk.i64_in _ (by omega)
        clear a1 a2 a3 b1 b2 b3 c1
        clear h ht k0 k1 z0 z1
        go_enter Tryz.func46, Tryz.ntmps46
        go_wp2_with fail
        go_region_held3 (fun w' => w'.cell? ⟨w.heap.size, 0, none⟩ = some (.int .i64 f) ∧ w'.cell? ⟨w.heap.size, 1, none⟩ = some (.slice a l c) ∧ Hid (Below w.heap.size w w'))
            (first
              | (go_split_ands; exact ⟨by with_reducible assumption, by with_reducible assumption, by with_reducible assumption⟩)
              | (go_split_ands; exact ⟨by go_simp, by go_simp, Lib.hid (Below.drew (box_b _ _))⟩)
              | (go_split_ands; exact ⟨by go_simp, by go_simp, Lib.hid (box_b _ _)⟩)
              | (go_split_ands; exact ⟨cell_drew (by with_reducible assumption), cell_drew (by with_reducible assumption), Lib.hid (Below.drew (Hid.out (by with_reducible assumption)))⟩)
              | (go_split_ands; exact ⟨keep2 hb (by with_reducible assumption), keep2 hb (by with_reducible assumption), Lib.hid (Below.trans (Hid.out (by with_reducible assumption)) (Below.mono hb (Below.size (Hid.out (by with_reducible assumption)))))⟩)
              | fail)
            (first
              | (go_split_ands; go_at_call 74; ((with_reducible refine (CM.out _ (by with_reducible assumption)).mono ?_); rintro e w' ⟨rfl, hb⟩))
              | (go_split_ands; go_at_call 74; ((with_reducible refine (CZ.out _ (by with_reducible assumption)).mono ?_); rintro e w' ⟨rfl, hb⟩))
              | (go_split_ands; go_at_call 43; ((with_reducible refine (CD.out _ (by with_reducible assumption)).mono ?_); rintro e w' ⟨rfl, hb⟩))
              | fail)
        all_goals
          go_split_ands
          go_wp2_with fail
          go_ret
          exact ⟨rfl, Hid.out (by with_reducible assumption)⟩
      · rw [if_neg k2]
        have z2 : (k == 2) = false := by simp [k2]
        clear a1 a2 a3 b1 b2 b3 c1
        have C1 : Hid (∀ W, Hid (Below w.heap.size w W) → Calls Tryz.prog 43 #[.agg #[.int .i64 f, .slice a l c], .int .i64 r, .int .i64 (x + n)] W fun e w' => e = .returned (.int .i64 (cD r xs (x + n - f).toNat)) ∧ Below W.heap.size W w') :=
          Lib.hid (fun W hW => sD_any r f xs a l c (x + n) W (H.out.on hW.out) ht r0 r1 (by omega) (by omega))
        obtain ⟨M, hM⟩ : ∃ y_, cD r xs (x + n - f).toNat = y_ := ⟨_, rfl⟩
        rw [hM] at C1 ⊢
        clear hM
        clear h ht k0 k1 k2
        go_enter Tryz.func46, Tryz.ntmps46
        go_wp2_with fail
        with_reducible refine (C1.out _ (Lib.hid (box_b _ _))).mono ?_
        rintro e w1 ⟨rfl, hb⟩
        obtain ⟨hB, hc0, hc1⟩ := box2 hb
        have HB := Lib.hid hB
        clear hB hb
        go_wp2_with fail
        go_ret
        exact ⟨rfl, HB.out⟩

set_option maxHeartbeats 4000000 in
theorem sbase_any (r f : Int) (xs : List Int) (a : Option Addr) (l c : Nat) (k x n : Int) (w : World) (h : Ints w a l xs) (ht : LTab f xs) (r0 : 0 ≤ r) (r1 : r ≤ 200) (x0 : f ≤ x) (n0 : 0 ≤ n) (n1 : n ≤ 120) (xn : x + n ≤ 150) :
    Calls Tryz.prog 63 #[.agg #[.int .i64 f, .slice a l c], .int .i64 r, .int .i64 k, .int .i64 x, .int .i64 n] w fun e w' => e = .returned (.int .i64 (asB r f xs k x n)) ∧ Below w.heap.size w w' := by
  have H := Lib.hid h
  obtain ⟨f0, f1⟩ := ht.1
  have q6 : IntKind.i64.wrap (x + n) = x + n := IntWalk.i64_in _ (by omega)
  have g1 := ht.cN_bd r r0 (x - f).toNat
  have g2 := ht.cN_bd r r0 (x + n - f).toNat
  unfold asB
  by_cases k0 : k = 0
  · rw [if_pos k0]
    subst k0
    clear g1 g2
    have C1 : Hid (∀ W, Hid (Below w.heap.size w W) → Calls Tryz.prog 102 #[.agg #[.int .i64 f, .slice a l c], .int .i64 r, .int .i64 x] W fun e w' => e = .returned (.int .i64 (cN r xs (x - f).toNat)) ∧ Below W.heap.size W w') :=
      Lib.hid (fun W hW => sN_any r f xs a l c x W (H.out.on hW.out) ht r0 r1 (by omega) (by omega))
    obtain ⟨M, hM⟩ : ∃ y_, cN r xs (x - f).toNat = y_ := ⟨_, rfl⟩
    rw [hM] at C1 ⊢
    clear hM
    clear h ht 
    go_enter Tryz.func63, Tryz.ntmps63
    go_wp2_with fail
    with_reducible refine (C1.out _ (Lib.hid (box_b _ _))).mono ?_
    rintro e w1 ⟨rfl, hb⟩
    obtain ⟨hB, hc0, hc1⟩ := box2 hb
    have HB := Lib.hid hB
    clear hB hb
    go_wp2_with fail
    go_ret
    exact ⟨rfl, HB.out⟩
  · rw [if_neg k0]
    have z0 : (k == 0) = false := by simp [k0]
    have CM : Hid (∀ W, Hid (Below w.heap.size w W) → Calls Tryz.prog 102 #[.agg #[.int .i64 f, .slice a l c], .int .i64 r, .int .i64 x] W fun e w' => e = .returned (.int .i64 (cN r xs (x - f).toNat)) ∧ Below W.heap.size W w') :=
      Lib.hid (fun W hW => sN_any r f xs a l c x W (H.out.on hW.out) ht r0 r1 (by omega) (by omega))
    have CZ : Hid (∀ W, Hid (Below w.heap.size w W) → Calls Tryz.prog 102 #[.agg #[.int .i64 f, .slice a l c], .int .i64 r, .int .i64 (x + n)] W fun e w' => e = .returned (.int .i64 (cN r xs (x + n - f).toNat)) ∧ Below W.heap.size W w') :=
      Lib.hid (fun W hW => sN_any r f xs a l c (x + n) W (H.out.on hW.out) ht r0 r1 (by omega) (by omega))
    obtain ⟨M, hM⟩ : ∃ y_, cN r xs (x - f).toNat = y_ := ⟨_, rfl⟩
    rw [hM] at CM g1 ⊢
    clear hM
    obtain ⟨Z, hZ⟩ : ∃ y_, cN r xs (x + n - f).toNat = y_ := ⟨_, rfl⟩
    rw [hZ] at CZ g2 ⊢
    clear hZ
    have q5 : IntKind.i64.wrap (M - Z) = M - Z := IntWalk.i64_in _ (by omega)
    clear g1 g2
    clear h ht k0
    go_enter Tryz.func63, Tryz.ntmps63
    go_wp2_with fail
    go_region_held3 (fun w' => w'.cell? ⟨w.heap.size, 0, none⟩ = some (.int .i64 f) ∧ w'.cell? ⟨w.heap.size, 1, none⟩ = some (.slice a l c) ∧ Hid (Below w.heap.size w w'))
        (first
          | (go_split_ands; exact ⟨by with_reducible assumption, by with_reducible assumption, by with_reducible assumption⟩)
          | (go_split_ands; exact ⟨by go_simp, by go_simp, Lib.hid (Below.drew (box_b _ _))⟩)
          | (go_split_ands; exact ⟨by go_simp, by go_simp, Lib.hid (box_b _ _)⟩)
          | (go_split_ands; exact ⟨cell_drew (by with_reducible assumption), cell_drew (by with_reducible assumption), Lib.hid (Below.drew (Hid.out (by with_reducible assumption)))⟩)
          | (go_split_ands; exact ⟨keep2 hb (by with_reducible assumption), keep2 hb (by with_reducible assumption), Lib.hid (Below.trans (Hid.out (by with_reducible assumption)) (Below.mono hb (Below.size (Hid.out (by with_reducible assumption)))))⟩)
          | fail)
        (first
          | (go_split_ands; go_at_call 102; ((with_reducible refine (CM.out _ (by with_reducible assumption)).mono ?_); rintro e w' ⟨rfl, hb⟩))
          | (go_split_ands; go_at_call 102; ((with_reducible refine (CZ.out _ (by with_reducible assumption)).mono ?_); rintro e w' ⟨rfl, hb⟩))
          | fail)
    all_goals
      go_split_ands
      go_wp2_with fail
      go_ret
      exact ⟨rfl, Hid.out (by with_reducible assumption)⟩

/-- the code of an assurance -/
def asE (r f : Int) (xs : List Int) (k x n b : Int) : Int := anE r f xs x (inB b 1 100000000 && fitB k n) n

def priV (r f : Int) (xs : List Int) (k x n b : Int) : Int := if asE r f xs k x n b = 0 then upV b (asT r f xs k x n) (cD r xs (x - f).toNat) else 0

def levV (r f : Int) (xs : List Int) (k x n b : Int) : Int := if asE r f xs k x n b = 0 then upV b (asT r f xs k x n) (asB r f xs k x n) else 0

def sumE (r f : Int) (xs : List Int) (k x n b : Int) : Int := if asE r f xs k x n b = 0 then (if asT r f xs k x n = 0 then 4 else if b * cD r xs (x - f).toNat / asT r f xs k x n ≤ 1000000000000000000 then 0 else 3) else asE r f xs k x n b

def sumV (r f : Int) (xs : List Int) (k x n b : Int) : Int := if sumE r f xs k x n b = 0 then b * cD r xs (x - f).toNat / asT r f xs k x n else 0

def numE (r f : Int) (xs : List Int) (k x n : Int) : Int := anE r f xs x (fitB k n) n

def numT (r f : Int) (xs : List Int) (k x n : Int) : Int := if numE r f xs k x n = 0 then asT r f xs k x n else 0

def numD (r f : Int) (xs : List Int) (k x n : Int) : Int := if numE r f xs k x n = 0 then cD r xs (x - f).toNat else 0

def IIIPost (v u E : Int) (w : World) (e : Ending) (w' : World) : Prop := e = .returned (.tuple #[.int .i64 v, .int .i64 u, .int .i64 E]) ∧ Below w.heap.size w w'

/-- what an assurance without an error is -/
theorem as_in {r f : Int} {xs : List Int} {x n : Int} {B : Bool} {k : Int} (h : anE r f xs x (B && fitB k n) n = 0) : B = true ∧ ((0 ≤ k ∧ k ≤ 3) ∧ (k = 0 ↔ n = 0)) ∧ LTab f xs ∧ (0 ≤ r ∧ r ≤ 200) ∧ (f ≤ x ∧ x ≤ 150) ∧ (0 ≤ n ∧ n ≤ 120) ∧ x + n ≤ 150 ∧ cD r xs (x - f).toNat ≠ 0 := by
  obtain ⟨hc, hb, hn, xn, hd⟩ := anE_iff.1 h
  obtain ⟨ht, hr, x0, x1⟩ := coE_iff.1 hc
  simp only [Bool.and_eq_true] at hb
  exact ⟨hb.1, fitB_iff.1 hb.2, ht, hr, ⟨x0, x1⟩, hn, xn, hd⟩

/-- the numbers of an assurance without an error -/
theorem as_nums {r f : Int} {xs : List Int} {x n : Int} {B : Bool} {k : Int} (h : anE r f xs x (B && fitB k n) n = 0) : ∃ t d b : Int, asT r f xs k x n = t ∧ cD r xs (x - f).toNat = d ∧ asB r f xs k x n = b ∧ 0 ≤ t ∧ t ≤ d ∧ 1 ≤ d ∧ d ≤ 1000000000000000 ∧ d ≤ b ∧ b ≤ 152000000000000000 := by
  obtain ⟨-, ⟨-, hk⟩, ht, ⟨r0, -⟩, ⟨x0, -⟩, ⟨n0, -⟩, -, hd⟩ := as_in h
  obtain ⟨t0, t1, d1⟩ := ht.top r r0 k x n x0 n0
  obtain ⟨b0, b1⟩ := ht.bot r r0 k x n x0 n0 (fun h0 => by
    by_cases h2 : n = 0
    · exact absurd (hk.2 h2) h0
    · omega)
  have d0 := (ht.cD_bd r r0 (x - f).toNat).1
  exact ⟨_, _, _, rfl, rfl, rfl, t0, t1, by omega, d1, b0, b1⟩

theorem asE_true (r f : Int) (xs : List Int) (k x n : Int) : anE r f xs x (true && fitB k n) n = numE r f xs k x n := rfl

set_option maxHeartbeats 4000000 in
theorem slevel_any (r f : Int) (xs : List Int) (a : Option Addr) (l c : Nat) (k x n b : Int) (w : World) (h : Ints w a l xs) (hz : anE r f xs x (inB b 1 100000000 && fitB k n) n = 0) :
    Calls Tryz.prog 117 #[.agg #[.int .i64 f, .slice a l c], .int .i64 r, .int .i64 k, .int .i64 x, .int .i64 n, .int .i64 b] w fun e w' => e = .returned (.int .i64 (upV b (asT r f xs k x n) (asB r f xs k x n))) ∧ Below w.heap.size w w' := by
  have H := Lib.hid h
  have HZ := Lib.hid hz
  clear h hz
  obtain ⟨hB, -, ht, ⟨r0, r1⟩, ⟨x0, x1⟩, ⟨n0, n1⟩, xn, -⟩ := as_in HZ.out
  obtain ⟨f0, f1⟩ := ht.1
  obtain ⟨b0, b1⟩ := (inB_iff _ _ _).1 hB
  have CT : Hid (∀ W, Hid (Below w.heap.size w W) → Calls Tryz.prog 46 #[.agg #[.int .i64 f, .slice a l c], .int .i64 r, .int .i64 k, .int .i64 x, .int .i64 n] W fun e w' => e = .returned (.int .i64 (asT r f xs k x n)) ∧ Below W.heap.size W w') :=
    Lib.hid (fun W hW => stop_any r f xs a l c k x n W (H.out.on hW.out) ht r0 r1 x0 n0 n1 xn)
  have CB : Hid (∀ W, Hid (Below w.heap.size w W) → Calls Tryz.prog 63 #[.agg #[.int .i64 f, .slice a l c], .int .i64 r, .int .i64 k, .int .i64 x, .int .i64 n] W fun e w' => e = .returned (.int .i64 (asB r f xs k x n)) ∧ Below W.heap.size W w') :=
    Lib.hid (fun W hW => sbase_any r f xs a l c k x n W (H.out.on hW.out) ht r0 r1 x0 n0 n1 xn)
  obtain ⟨t, d, v, ht1, hd1, hv1, t0, t1, d0, d1, v0, v1⟩ := as_nums HZ.out
  rw [ht1] at CT ⊢
  rw [hv1] at CB ⊢
  clear ht1 hv1 hd1
  have CU := Lib.hid (fun W => sup_any b t v W (by omega) (by omega) (by omega) (by omega) (by omega) (by omega) (by have := quot_le b t v (by omega) (by omega) (by omega); omega))
  obtain ⟨u, hu⟩ : ∃ y_, upV b t v = y_ := ⟨_, rfl⟩
  rw [hu] at CU ⊢
  clear hu hB ht t0 t1 d0 d1 v0 v1
  go_enter Tryz.func117, Tryz.ntmps117
  go_wp2_with fail
  go_region_held3 (fun w' => w'.cell? ⟨w.heap.size, 0, none⟩ = some (.int .i64 f) ∧ w'.cell? ⟨w.heap.size, 1, none⟩ = some (.slice a l c) ∧ Hid (Below w.heap.size w w'))
      (first
        | (go_split_ands; exact ⟨by with_reducible assumption, by with_reducible assumption, by with_reducible assumption⟩)
        | (go_split_ands; exact ⟨by go_simp, by go_simp, Lib.hid (Below.drew (box_b _ _))⟩)
        | (go_split_ands; exact ⟨by go_simp, by go_simp, Lib.hid (box_b _ _)⟩)
        | (go_split_ands; exact ⟨cell_drew (by with_reducible assumption), cell_drew (by with_reducible assumption), Lib.hid (Below.drew (Hid.out (by with_reducible assumption)))⟩)
        | (go_split_ands; exact ⟨keep2 hb (by with_reducible assumption), keep2 hb (by with_reducible assumption), Lib.hid (Below.trans (Hid.out (by with_reducible assumption)) (Below.mono hb (Below.size (Hid.out (by with_reducible assumption)))))⟩)
        | fail)
      (first
        | (go_split_ands; go_at_call 46; ((with_reducible refine (CT.out _ (by with_reducible assumption)).mono ?_); rintro e w' ⟨rfl, hb⟩))
        | (go_split_ands; go_at_call 63; ((with_reducible refine (CB.out _ (by with_reducible assumption)).mono ?_); rintro e w' ⟨rfl, hb⟩))
        | (go_split_ands; go_at_call 45; ((with_reducible refine (CU.out _).mono ?_); rintro e w' ⟨rfl, rfl⟩))
        | fail)
  all_goals
    go_split_ands
    go_wp2_with fail
    go_ret
    exact ⟨rfl, Hid.out (by with_reducible assumption)⟩

end Go.Proofs.YtdlfofdibooidaaGreat

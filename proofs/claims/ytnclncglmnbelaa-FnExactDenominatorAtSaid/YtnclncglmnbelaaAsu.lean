/- Assurances: numbers, the model's code, numerators and denominators. (Written by wip/gen/asu.py.) | Assurances: the model's prices, level premiums, sums, fractions, parts. (Written by wip/gen/asv.py.) -/
import Derived.Test.YtnclncglmnbelaaAnn
import Derived.Deep.RegionHeld3
namespace Go.Proofs.Ytnclncglmnbelaa
open Go.ChangeShapes Go.WideShapes Go.ChangeAt Go.RowKit
set_option linter.unusedVariables false
set_option maxRecDepth 100000

/-- do a kind and a number of years belong together? -/
def fitB (k n : Int) : Bool := inB k 0 3 && (decide (k = 0) == decide (n = 0))

/-- the numerator of the value of an assurance -/
def asT (r f : Int) (xs : List Int) (k x n : Int) : Int :=
  if k = 0 then cM r xs (x - f).toNat else if k = 1 then cM r xs (x - f).toNat - cM r xs (x + n - f).toNat else if k = 2 then cM r xs (x - f).toNat - cM r xs (x + n - f).toNat + cD r xs (x + n - f).toNat else cD r xs (x + n - f).toNat

/-- the payments of a level premium -/
def asB (r f : Int) (xs : List Int) (k x n : Int) : Int := if k = 0 then cN r xs (x - f).toNat else cN r xs (x - f).toNat - cN r xs (x + n - f).toNat

theorem LTab.cCD {f : Int} {xs : List Int} (h : LTab f xs) (r : Int) (r0 : 0 ≤ r) (k : Nat) : cC r xs k + cD r xs (k + 1) ≤ cD r xs k := by
  have e := Int.mul_le_mul_of_nonneg_left (disc_le r r0 k) (h.nonneg k)
  unfold cC cD
  rw [Int.sub_mul]
  omega

theorem LTab.cM_D {f : Int} {xs : List Int} (h : LTab f xs) (r : Int) (r0 : 0 ≤ r) (k n : Nat) : cM r xs k - cM r xs (k + n) + cD r xs (k + n) ≤ cD r xs k := by
  induction n with
  | zero => simp
  | succ n ih =>
    have e := h.cM_step r (k + n)
    have c := h.cCD r r0 (k + n)
    rw [show k + (n + 1) = k + n + 1 by omega]
    omega

theorem LTab.cM_mono {f : Int} {xs : List Int} (h : LTab f xs) (r : Int) (r0 : 0 ≤ r) (k n : Nat) : cM r xs (k + n) ≤ cM r xs k := by
  induction n with
  | zero => exact Int.le_refl _
  | succ n ih =>
    have := h.cM_step r (k + n)
    have := (h.cC_bd r r0 (k + n)).1
    rw [show k + (n + 1) = k + n + 1 by omega]
    omega

theorem LTab.cM_le {f : Int} {xs : List Int} (h : LTab f xs) (r : Int) (r0 : 0 ≤ r) (k : Nat) : cM r xs k ≤ cD r xs k := by
  have e := h.cM_D r r0 k 152
  have e2 := h.cM_far r (k + 152) (by have := h.short; omega)
  have e3 := (h.cD_bd r r0 (k + 152)).1
  omega

/-- the columns n years later -/
theorem LTab.off {f : Int} {xs : List Int} (h : LTab f xs) (r : Int) (r0 : 0 ≤ r) (x n : Int) (x0 : f ≤ x) (n0 : 0 ≤ n) :
    (0 ≤ cM r xs (x + n - f).toNat ∧ cM r xs (x + n - f).toNat ≤ cM r xs (x - f).toNat ∧ cM r xs (x - f).toNat ≤ cD r xs (x - f).toNat) ∧ (0 ≤ cD r xs (x + n - f).toNat ∧ cD r xs (x + n - f).toNat ≤ cD r xs (x - f).toNat ∧ cD r xs (x - f).toNat ≤ 1000000000000000) ∧ cM r xs (x - f).toNat - cM r xs (x + n - f).toNat + cD r xs (x + n - f).toNat ≤ cD r xs (x - f).toNat := by
  have e : (x + n - f).toNat = (x - f).toNat + n.toNat := by omega
  rw [e]
  exact ⟨⟨(h.cM_bd r r0 _).1, h.cM_mono r r0 _ _, h.cM_le r r0 _⟩, ⟨(h.cD_bd r r0 _).1, h.cD_mono r r0 _ _, (h.cD_bd r r0 _).2⟩, h.cM_D r r0 _ _⟩

theorem LTab.top {f : Int} {xs : List Int} (h : LTab f xs) (r : Int) (r0 : 0 ≤ r) (k x n : Int) (x0 : f ≤ x) (n0 : 0 ≤ n) : 0 ≤ asT r f xs k x n ∧ asT r f xs k x n ≤ cD r xs (x - f).toNat ∧ cD r xs (x - f).toNat ≤ 1000000000000000 := by
  obtain ⟨⟨a1, a2, a3⟩, ⟨b1, b2, b3⟩, c1⟩ := h.off r r0 x n x0 n0
  unfold asT
  split
  · omega
  · split
    · omega
    · split <;> omega

theorem LTab.bot {f : Int} {xs : List Int} (h : LTab f xs) (r : Int) (r0 : 0 ≤ r) (k x n : Int) (x0 : f ≤ x) (n0 : 0 ≤ n) (hk : k ≠ 0 → 1 ≤ n) : cD r xs (x - f).toNat ≤ asB r f xs k x n ∧ asB r f xs k x n ≤ 152000000000000000 := by
  have e1 := (h.cN_bd r r0 (x - f).toNat).2
  have e2 := h.cN_ge r r0 (x - f).toNat
  unfold asB
  split
  · omega
  · rename_i hz
    have hn := hk hz
    have e3 := h.cN_step r (x - f).toNat
    have e4 := h.cN_mono r r0 ((x - f).toNat + 1) (n.toNat - 1)
    rw [show (x - f).toNat + 1 + (n.toNat - 1) = (x + n - f).toNat by omega] at e4
    have e5 := (h.cN_bd r r0 (x + n - f).toNat).1
    omega

theorem fitB_iff {k n : Int} : fitB k n = true ↔ (0 ≤ k ∧ k ≤ 3) ∧ (k = 0 ↔ n = 0) := by
  unfold fitB
  rw [← inB_iff]
  cases inB k 0 3
  · simp
  · by_cases h1 : k = 0 <;> by_cases h2 : n = 0 <;> simp [h1, h2]

/-- a part of a number, times an amount, over the number -/
theorem quot_le (b u v : Int) (b0 : 0 ≤ b) (h : u ≤ v) (v1 : 1 ≤ v) : b * u / v ≤ b := by
  have h1 : b * u ≤ b * v := Int.mul_le_mul_of_nonneg_left h b0
  have h2 : b * u / v ≤ b * v / v := Int.ediv_le_ediv (by omega) h1
  rw [Int.mul_ediv_cancel _ (by omega)] at h2
  exact h2

theorem ssum_any (n : Int) (w : World) : Calls Try.prog 28 #[.int .i64 n] w fun e w' => e = .returned (.bool (inB n 1 100000000)) ∧ w = w' := by
  go_enter Try.func28, Try.ntmps28
  go_wp2_with (go_at_call 18; refine (in_any _ _ _ _).mono ?_; rintro e w' ⟨rfl, rfl⟩)
  go_ret
  exact ⟨rfl, rfl⟩

set_option maxHeartbeats 1000000 in
theorem ascode_any (r f : Int) (xs : List Int) (a : Option Addr) (l c : Nat) (k x n : Int) (b : Bool) (w : World) (h : Ints w a l xs) :
    Calls Try.prog 27 #[.agg #[.int .i64 f, .slice a l c], .int .i64 r, .int .i64 k, .int .i64 x, .int .i64 n, .bool b] w fun e w' => e = .returned (.int .i64 (anE r f xs x (b && fitB k n) n)) ∧ Below w.heap.size w w' := by
  have H := Lib.hid h
  have CA : Hid (∀ B W, Hid (Below w.heap.size w W) → Calls Try.prog 38 #[.agg #[.int .i64 f, .slice a l c], .int .i64 r, .int .i64 x, .bool B, .int .i64 n] W fun e w' => e = .returned (.int .i64 (anE r f xs x B n)) ∧ Below W.heap.size W w') :=
    Lib.hid (fun B W hW => ancode_any r f xs a l c x B n W (H.out.on hW.out))
  clear h
  by_cases hk : inB k 0 3 = true
  · by_cases h1 : k = 0
    · subst h1
      by_cases h2 : n = 0
      · subst h2
        cases b
        · have HF : Hid ((false && fitB 0 0) = false) := Lib.hid (by unfold fitB; rw [hk]; simp)
          go_enter Try.func27, Try.ntmps27
          go_wp2_with (go_at_call 18; refine (in_any _ _ _ _).mono ?_; rintro e w' ⟨rfl, rfl⟩)
          with_reducible refine (CA.out _ _ (Lib.hid (box_b _ _))).mono ?_
          rintro e w1 ⟨rfl, hb⟩
          obtain ⟨hB, hc0, hc1⟩ := box2 hb
          have HB := Lib.hid hB
          clear hB hb
          go_wp2_with fail
          go_ret
          exact ⟨ret_int (by rw [HF.out]), HB.out⟩
        · have HF : Hid ((true && fitB 0 0) = true) := Lib.hid (by unfold fitB; rw [hk]; simp)
          go_enter Try.func27, Try.ntmps27
          go_wp2_with (go_at_call 18; refine (in_any _ _ _ _).mono ?_; rintro e w' ⟨rfl, rfl⟩)
          with_reducible refine (CA.out _ _ (Lib.hid (box_b _ _))).mono ?_
          rintro e w1 ⟨rfl, hb⟩
          obtain ⟨hB, hc0, hc1⟩ := box2 hb
          have HB := Lib.hid hB
          clear hB hb
          go_wp2_with fail
          go_ret
          exact ⟨ret_int (by rw [HF.out]), HB.out⟩
      · have hn1 : (n == 0) = false := by simp [h2]
        cases b
        · have HF : Hid ((false && fitB 0 n) = false) := Lib.hid (by unfold fitB; rw [hk]; simp)
          clear h2
          go_enter Try.func27, Try.ntmps27
          go_wp2_with (go_at_call 18; refine (in_any _ _ _ _).mono ?_; rintro e w' ⟨rfl, rfl⟩)
          with_reducible refine (CA.out _ _ (Lib.hid (box_b _ _))).mono ?_
          rintro e w1 ⟨rfl, hb⟩
          obtain ⟨hB, hc0, hc1⟩ := box2 hb
          have HB := Lib.hid hB
          clear hB hb
          go_wp2_with fail
          go_ret
          exact ⟨ret_int (by rw [HF.out]), HB.out⟩
        · have HF : Hid ((true && fitB 0 n) = false) := Lib.hid (by unfold fitB; rw [hk]; simp [h2])
          clear h2
          go_enter Try.func27, Try.ntmps27
          go_wp2_with (go_at_call 18; refine (in_any _ _ _ _).mono ?_; rintro e w' ⟨rfl, rfl⟩)
          with_reducible refine (CA.out _ _ (Lib.hid (box_b _ _))).mono ?_
          rintro e w1 ⟨rfl, hb⟩
          obtain ⟨hB, hc0, hc1⟩ := box2 hb
          have HB := Lib.hid hB
          clear hB hb
          go_wp2_with fail
          go_ret
          exact ⟨ret_int (by rw [HF.out]), HB.out⟩
    · have hk1 : (k == 0) = false := by simp [h1]
      by_cases h2 : n = 0
      · subst h2
        cases b
        · have HF : Hid ((false && fitB k 0) = false) := Lib.hid (by unfold fitB; rw [hk]; simp)
          clear h1
          go_enter Try.func27, Try.ntmps27
          go_wp2_with (go_at_call 18; refine (in_any _ _ _ _).mono ?_; rintro e w' ⟨rfl, rfl⟩)
          with_reducible refine (CA.out _ _ (Lib.hid (box_b _ _))).mono ?_
          rintro e w1 ⟨rfl, hb⟩
          obtain ⟨hB, hc0, hc1⟩ := box2 hb
          have HB := Lib.hid hB
          clear hB hb
          go_wp2_with fail
          go_ret
          exact ⟨ret_int (by rw [HF.out]), HB.out⟩
        · have HF : Hid ((true && fitB k 0) = false) := Lib.hid (by unfold fitB; rw [hk]; simp [h1])
          clear h1
          go_enter Try.func27, Try.ntmps27
          go_wp2_with (go_at_call 18; refine (in_any _ _ _ _).mono ?_; rintro e w' ⟨rfl, rfl⟩)
          with_reducible refine (CA.out _ _ (Lib.hid (box_b _ _))).mono ?_
          rintro e w1 ⟨rfl, hb⟩
          obtain ⟨hB, hc0, hc1⟩ := box2 hb
          have HB := Lib.hid hB
          clear hB hb
          go_wp2_with fail
          go_ret
          exact ⟨ret_int (by rw [HF.out]), HB.out⟩
      · have hn1 : (n == 0) = false := by simp [h2]
        cases b
        · have HF : Hid ((false && fitB k n) = false) := Lib.hid (by unfold fitB; rw [hk]; simp)
          clear h1
          clear h2
          go_enter Try.func27, Try.ntmps27
          go_wp2_with (go_at_call 18; refine (in_any _ _ _ _).mono ?_; rintro e w' ⟨rfl, rfl⟩)
          with_reducible refine (CA.out _ _ (Lib.hid (box_b _ _))).mono ?_
          rintro e w1 ⟨rfl, hb⟩
          obtain ⟨hB, hc0, hc1⟩ := box2 hb
          have HB := Lib.hid hB
          clear hB hb
          go_wp2_with fail
          go_ret
          exact ⟨ret_int (by rw [HF.out]), HB.out⟩
        · have HF : Hid ((true && fitB k n) = true) := Lib.hid (by unfold fitB; rw [hk]; simp [h1, h2])
          clear h1
          clear h2
          go_enter Try.func27, Try.ntmps27
          go_wp2_with (go_at_call 18; refine (in_any _ _ _ _).mono ?_; rintro e w' ⟨rfl, rfl⟩)
          with_reducible refine (CA.out _ _ (Lib.hid (box_b _ _))).mono ?_
          rintro e w1 ⟨rfl, hb⟩
          obtain ⟨hB, hc0, hc1⟩ := box2 hb
          have HB := Lib.hid hB
          clear hB hb
          go_wp2_with fail
          go_ret
          exact ⟨ret_int (by rw [HF.out]), HB.out⟩
  · have hk2 : inB k 0 3 = false := by simpa using hk
    have HF : Hid ((b && fitB k n) = false) := Lib.hid (by unfold fitB; rw [hk2]; simp)
    clear hk
    cases b
    · go_enter Try.func27, Try.ntmps27
      go_wp2_with (go_at_call 18; refine (in_any _ _ _ _).mono ?_; rintro e w' ⟨rfl, rfl⟩)
      with_reducible refine (CA.out _ _ (Lib.hid (box_b _ _))).mono ?_
      rintro e w1 ⟨rfl, hb⟩
      obtain ⟨hB, hc0, hc1⟩ := box2 hb
      have HB := Lib.hid hB
      clear hB hb
      go_wp2_with fail
      go_ret
      exact ⟨ret_int (by rw [HF.out]), HB.out⟩
    · go_enter Try.func27, Try.ntmps27
      go_wp2_with (go_at_call 18; refine (in_any _ _ _ _).mono ?_; rintro e w' ⟨rfl, rfl⟩)
      with_reducible refine (CA.out _ _ (Lib.hid (box_b _ _))).mono ?_
      rintro e w1 ⟨rfl, hb⟩
      obtain ⟨hB, hc0, hc1⟩ := box2 hb
      have HB := Lib.hid hB
      clear hB hb
      go_wp2_with fail
      go_ret
      exact ⟨ret_int (by rw [HF.out]), HB.out⟩

/-- the code of an assurance -/
def asE (r f : Int) (xs : List Int) (k x n b : Int) : Int := anE r f xs x (inB b 1 100000000 && fitB k n) n

def priV (r f : Int) (xs : List Int) (k x n b : Int) : Int := if asE r f xs k x n b = 0 then upV b (asT r f xs k x n) (cD r xs (x - f).toNat) else 0

def levV (r f : Int) (xs : List Int) (k x n b : Int) : Int := if asE r f xs k x n b = 0 then upV b (asT r f xs k x n) (asB r f xs k x n) else 0

def sumE (r f : Int) (xs : List Int) (k x n b : Int) : Int := if asE r f xs k x n b = 0 then (if asT r f xs k x n = 0 then 4 else if b * cD r xs (x - f).toNat / asT r f xs k x n ≤ 1000000000000000000 then 0 else 3) else asE r f xs k x n b

def sumV (r f : Int) (xs : List Int) (k x n b : Int) : Int := if sumE r f xs k x n b = 0 then b * cD r xs (x - f).toNat / asT r f xs k x n else 0

def numE (r f : Int) (xs : List Int) (k x n : Int) : Int := anE r f xs x (fitB k n) n

def numT (r f : Int) (xs : List Int) (k x n : Int) : Int := if numE r f xs k x n = 0 then asT r f xs k x n else 0

def numD (r f : Int) (xs : List Int) (k x n : Int) : Int := if numE r f xs k x n = 0 then cD r xs (x - f).toNat else 0

def IIIPost (v u E : Int) (w : World) (e : Ending) (w' : World) : Prop := e = .returned (.tuple #[.int .i64 v, .int .i64 u, .int .i64 E]) ∧ Below w.heap.size w w'

/-- what an assurance without an error is -/
theorem as_in {r f : Int} {xs : List Int} {x n : Int} {B : Bool} {k : Int} (h : anE r f xs x (B && fitB k n) n = 0) : B = true ∧ ((0 ≤ k ∧ k ≤ 3) ∧ (k = 0 ↔ n = 0)) ∧ LTab f xs ∧ (0 ≤ r ∧ r ≤ 200) ∧ (f ≤ x ∧ x ≤ 150) ∧ (0 ≤ n ∧ n ≤ 120) ∧ x + n ≤ 150 ∧ cD r xs (x - f).toNat ≠ 0 := by
  obtain ⟨hc, hb, hn, xn, hd⟩ := anE_iff.1 h
  obtain ⟨ht, hr, x0, x1⟩ := coE_iff.1 hc
  simp only [Bool.and_eq_true] at hb
  exact ⟨hb.1, fitB_iff.1 hb.2, ht, hr, ⟨x0, x1⟩, hn, xn, hd⟩

/-- the numbers of an assurance without an error -/
theorem as_nums {r f : Int} {xs : List Int} {x n : Int} {B : Bool} {k : Int} (h : anE r f xs x (B && fitB k n) n = 0) : ∃ t d b : Int, asT r f xs k x n = t ∧ cD r xs (x - f).toNat = d ∧ asB r f xs k x n = b ∧ 0 ≤ t ∧ t ≤ d ∧ 1 ≤ d ∧ d ≤ 1000000000000000 ∧ d ≤ b ∧ b ≤ 152000000000000000 := by
  obtain ⟨-, ⟨-, hk⟩, ht, ⟨r0, -⟩, ⟨x0, -⟩, ⟨n0, -⟩, -, hd⟩ := as_in h
  obtain ⟨t0, t1, d1⟩ := ht.top r r0 k x n x0 n0
  obtain ⟨b0, b1⟩ := ht.bot r r0 k x n x0 n0 (fun h0 => by
    by_cases h2 : n = 0
    · exact absurd (hk.2 h2) h0
    · omega)
  have d0 := (ht.cD_bd r r0 (x - f).toNat).1
  exact ⟨_, _, _, rfl, rfl, rfl, t0, t1, by omega, d1, b0, b1⟩

theorem asE_true (r f : Int) (xs : List Int) (k x n : Int) : anE r f xs x (true && fitB k n) n = numE r f xs k x n := rfl

end Go.Proofs.Ytnclncglmnbelaa

/- Annuities: numbers, and the model's functions. | Annuities: the model's prices. (Written by wip/gen/annt.py.) -/
import Derived.Test.YtnclncglmnbelaaGreatCol
import Derived.Test.YtnclncglmnbelaaGreatMdS
import Derived.Deep.RegionHeld3
namespace Go.Proofs.YtnclncglmnbelaaGreat
open Go.ChangeShapes Go.WideShapes Go.ChangeAt Go.RowKit
set_option linter.unusedVariables false
set_option maxRecDepth 100000

/-- a product divided and rounded up -/
def upV (a b c : Int) : Int := a * b / c + (if 0 < a * b % c then 1 else 0)

theorem LTab.cD_le {f : Int} {xs : List Int} (h : LTab f xs) (r : Int) (r0 : 0 ≤ r) (k : Nat) : cD r xs (k + 1) ≤ cD r xs k :=
  Int.mul_le_mul (h.step k) (disc_le r r0 k) (disc_bd r r0 (k + 1)).1 (h.nonneg k)

theorem LTab.cD_mono {f : Int} {xs : List Int} (h : LTab f xs) (r : Int) (r0 : 0 ≤ r) (k n : Nat) : cD r xs (k + n) ≤ cD r xs k := by
  induction n with
  | zero => exact Int.le_refl _
  | succ n ih => exact Int.le_trans (h.cD_le r r0 (k + n)) ih

theorem LTab.cN_le {f : Int} {xs : List Int} (h : LTab f xs) (r : Int) (r0 : 0 ≤ r) (k : Nat) : cN r xs k ≤ 152 * cD r xs k := by
  have : ∀ n : Nat, fsum (cD r xs) k n ≤ n * cD r xs k := by
    intro n
    induction n with
    | zero => simp [fsum]
    | succ n ih =>
      rw [fsum]
      have := h.cD_mono r r0 k n
      rw [show ((n + 1 : Nat) : Int) * cD r xs k = (n : Int) * cD r xs k + cD r xs k by rw [Int.natCast_add, Int.add_mul]; omega]
      omega
  exact this 152

theorem LTab.cN_mono {f : Int} {xs : List Int} (h : LTab f xs) (r : Int) (r0 : 0 ≤ r) (k n : Nat) : cN r xs (k + n) ≤ cN r xs k := by
  induction n with
  | zero => exact Int.le_refl _
  | succ n ih =>
    have := h.cN_step r (k + n)
    have := (h.cD_bd r r0 (k + n)).1
    rw [show k + (n + 1) = k + n + 1 by omega]
    omega

theorem LTab.cN_ge {f : Int} {xs : List Int} (h : LTab f xs) (r : Int) (r0 : 0 ≤ r) (k : Nat) : cD r xs k ≤ cN r xs k := by
  have := h.cN_step r k
  have := (h.cN_bd r r0 (k + 1)).1
  omega

/-- a part of N, times an amount, over D -/
theorem LTab.quot {f : Int} {xs : List Int} (h : LTab f xs) (r : Int) (r0 : 0 ≤ r) (k : Nat) (u b : Int) (u0 : 0 ≤ u) (u1 : u ≤ cN r xs k) (hd : cD r xs k ≠ 0) (b0 : 0 ≤ b) (b1 : b ≤ 1000000) :
    u ≤ 1000000000000000000 ∧ 1 ≤ cD r xs k ∧ cD r xs k ≤ 1000000000000000000 ∧ b * u / cD r xs k ≤ 152000000 := by
  have e1 := (h.cN_bd r r0 k).2
  have e2 := h.cD_bd r r0 k
  have e3 := h.cN_le r r0 k
  refine ⟨by omega, by omega, by omega, ?_⟩
  have e4 : b * u ≤ b * (152 * cD r xs k) := Int.mul_le_mul_of_nonneg_left (by omega) b0
  have e5 : b * u / cD r xs k ≤ b * (152 * cD r xs k) / cD r xs k := Int.ediv_le_ediv (by omega) e4
  rw [← Int.mul_assoc, Int.mul_ediv_cancel _ hd] at e5
  omega

theorem upV_eq (a b c : Int) (hc : 1 ≤ c) : ∃ q r : Int, a * b / c = q ∧ a * b % c = r ∧ 0 ≤ r ∧ r < c ∧ (r = 0 → upV a b c = q) ∧ (0 < r → upV a b c = q + 1) := by
  refine ⟨_, _, rfl, rfl, Int.emod_nonneg _ (by omega), Int.emod_lt_of_pos _ (by omega), fun h => ?_, fun h => ?_⟩
  · unfold upV; rw [h]; simp
  · unfold upV; rw [if_pos h]

theorem sup_any (a b c : Int) (w : World) (a0 : 0 ≤ a) (a1 : a ≤ 1000000000000) (b0 : 0 ≤ b) (b1 : b ≤ 1000000000000000000) (c0 : 1 ≤ c) (c1 : c ≤ 1000000000000000000) (hq : a * b / c ≤ 100000000000000000) :
    Calls Tryz.prog 110 #[.int .i64 a, .int .i64 b, .int .i64 c] w fun e w' => e = .returned (.int .i64 (upV a b c)) ∧ w = w' := by
  have HC := Lib.hid (fun W => sdiv_any a b c W a0 a1 b0 b1 c0 c1)
  obtain ⟨e1, e2⟩ := md_small a b c (by omega)
  rw [e1, e2] at HC
  obtain ⟨q, r, hq1, hr1, r0, r1, g1, g2⟩ := upV_eq a b c c0
  have q0 : 0 ≤ q := by rw [← hq1]; exact Int.ediv_nonneg (Int.mul_nonneg a0 b0) (by omega)
  rw [hq1, hr1] at HC
  rw [hq1] at hq
  clear e1 e2 hq1 hr1
  by_cases hz : r = 0
  · have G := Lib.hid (g1 hz)
    subst hz
    clear g1 g2
    go_enter Tryz.func110, Tryz.ntmps110
    go_wp2_with (go_at_call 121; refine (HC.out _).mono ?_; rintro e w' ⟨rfl, rfl⟩)
    go_ret
    exact ⟨ret_int (by rw [G.out]), rfl⟩
  · have h1 : 1 ≤ r := by omega
    have G := Lib.hid (g2 (by omega))
    clear g1 g2
    go_enter Tryz.func110, Tryz.ntmps110
    go_wp2_with (go_at_call 121; refine (HC.out _).mono ?_; rintro e w' ⟨rfl, rfl⟩)
    go_ret
    exact ⟨ret_int (by rw [G.out]), rfl⟩

/-- the code of an annuity: b: is the amount right? -/
def anE (r f : Int) (xs : List Int) (x : Int) (b : Bool) (n : Int) : Int :=
  if coE r f xs x = 0 then (if b = true ∧ (0 ≤ n ∧ n ≤ 120) ∧ x + n ≤ 150 then (if cD r xs (x - f).toNat = 0 then 5 else 0) else 2) else coE r f xs x

theorem anE_iff {r f : Int} {xs : List Int} {x : Int} {b : Bool} {n : Int} : anE r f xs x b n = 0 ↔ coE r f xs x = 0 ∧ b = true ∧ (0 ≤ n ∧ n ≤ 120) ∧ x + n ≤ 150 ∧ cD r xs (x - f).toNat ≠ 0 := by
  unfold anE
  by_cases h1 : coE r f xs x = 0
  · by_cases h2 : b = true ∧ (0 ≤ n ∧ n ≤ 120) ∧ x + n ≤ 150
    · rw [if_pos h1, if_pos h2]
      by_cases h3 : cD r xs (x - f).toNat = 0
      · simp [h3]
      · simp [h3, h1, h2]
    · rw [if_pos h1, if_neg h2]
      constructor
      · intro h; omega
      · rintro ⟨_, a, b, c, _⟩; exact absurd ⟨a, b, c⟩ h2
  · rw [if_neg h1]
    constructor
    · intro h; exact absurd h h1
    · rintro ⟨h, _⟩; exact absurd h h1

theorem inB_no {x a b : Int} (h : ¬ (a ≤ x ∧ x ≤ b)) : inB x a b = false := by
  cases hc : inB x a b
  · rfl
  · exact absurd ((inB_iff _ _ _).1 hc) h

set_option maxHeartbeats 400000 in
theorem ancode_any (r f : Int) (xs : List Int) (a : Option Addr) (l c : Nat) (x : Int) (b : Bool) (n : Int) (w : World) (h : Ints w a l xs) :
    Calls Tryz.prog 104 #[.agg #[.int .i64 f, .slice a l c], .int .i64 r, .int .i64 x, .bool b, .int .i64 n] w fun e w' => e = .returned (.int .i64 (anE r f xs x b n)) ∧ Below w.heap.size w w' := by
  have H := Lib.hid h
  have CO : Hid (∀ W, Hid (Below w.heap.size w W) → Calls Tryz.prog 118 #[.agg #[.int .i64 f, .slice a l c], .int .i64 r, .int .i64 x] W fun e w' => e = .returned (.int .i64 (coE r f xs x)) ∧ Below W.heap.size W w') :=
    Lib.hid (fun W hW => scode_any r f xs a l c x W (H.out.on hW.out))
  clear h
  by_cases hz : coE r f xs x = 0
  · obtain ⟨ht, ⟨r0, r1⟩, x0, x1⟩ := coE_iff.1 hz
    obtain ⟨f0, f1⟩ := ht.1
    have CD : Hid (∀ W, Hid (Below w.heap.size w W) → Calls Tryz.prog 43 #[.agg #[.int .i64 f, .slice a l c], .int .i64 r, .int .i64 x] W fun e w' => e = .returned (.int .i64 (cD r xs (x - f).toNat)) ∧ Below W.heap.size W w') :=
      Lib.hid (fun W hW => sD_any r f xs a l c x W (H.out.on hW.out) ht r0 r1 x0 (by omega))
    rw [hz] at CO
    by_cases hok : b = true ∧ (0 ≤ n ∧ n ≤ 120) ∧ x + n ≤ 150
    · have HR : Hid (anE r f xs x b n = if cD r xs (x - f).toNat = 0 then 5 else 0) := Lib.hid (by unfold anE; rw [if_pos hz, if_pos hok])
      obtain ⟨rfl, ⟨n0, n1⟩, hn⟩ := hok
      have hin : inB n 0 120 = true := (inB_iff _ _ _).2 ⟨n0, n1⟩
      obtain ⟨D, hD⟩ : ∃ D, cD r xs (x - f).toNat = D := ⟨_, rfl⟩
      rw [hD] at CD HR
      clear hD hz ht
      by_cases hd : D = 0
      · subst hd
        go_enter Tryz.func104, Tryz.ntmps104
        go_wp2_with fail
        with_reducible refine (CO.out _ (Lib.hid (box_b _ _))).mono ?_
        rintro e w1 ⟨rfl, hb⟩
        obtain ⟨hB, hc0, hc1⟩ := box2 hb
        have HB := Lib.hid hB
        clear hB hb
        go_wp2_with (go_at_call 72; refine (in_any _ _ _ _).mono ?_; rintro e w' ⟨rfl, rfl⟩)
        with_reducible refine (CD.out _ HB).mono ?_
        rintro e w2 ⟨rfl, hb⟩
        have HB2 := Lib.hid (HB.out.trans (hb.mono HB.out.size))
        clear hb
        go_wp2_with fail
        go_ret
        exact ⟨ret_int (by rw [HR.out]; simp), HB2.out⟩
      · have hd2 : (D == 0) = false := by simp [hd]
        have HR2 : Hid (anE r f xs x true n = 0) := Lib.hid (by rw [HR.out, if_neg hd])
        clear hd HR
        go_enter Tryz.func104, Tryz.ntmps104
        go_wp2_with fail
        with_reducible refine (CO.out _ (Lib.hid (box_b _ _))).mono ?_
        rintro e w1 ⟨rfl, hb⟩
        obtain ⟨hB, hc0, hc1⟩ := box2 hb
        have HB := Lib.hid hB
        clear hB hb
        go_wp2_with (go_at_call 72; refine (in_any _ _ _ _).mono ?_; rintro e w' ⟨rfl, rfl⟩)
        with_reducible refine (CD.out _ HB).mono ?_
        rintro e w2 ⟨rfl, hb⟩
        have HB2 := Lib.hid (HB.out.trans (hb.mono HB.out.size))
        clear hb
        go_wp2_with fail
        go_ret
        exact ⟨ret_int HR2.out.symm, HB2.out⟩
    · have HR : Hid (anE r f xs x b n = 2) := Lib.hid (by unfold anE; rw [if_pos hz, if_neg hok])
      clear hz ht CD
      cases b
      · go_enter Tryz.func104, Tryz.ntmps104
        go_wp2_with fail
        with_reducible refine (CO.out _ (Lib.hid (box_b _ _))).mono ?_
        rintro e w1 ⟨rfl, hb⟩
        obtain ⟨hB, hc0, hc1⟩ := box2 hb
        have HB := Lib.hid hB
        clear hB hb
        go_wp2_with fail
        go_ret
        exact ⟨ret_int HR.out.symm, HB.out⟩
      · by_cases hn : 0 ≤ n ∧ n ≤ 120
        · have hin : inB n 0 120 = true := (inB_iff _ _ _).2 hn
          have hx : 150 < x + n := by simp [hn] at hok; omega
          obtain ⟨n0, n1⟩ := hn
          clear hok
          go_enter Tryz.func104, Tryz.ntmps104
          go_wp2_with fail
          with_reducible refine (CO.out _ (Lib.hid (box_b _ _))).mono ?_
          rintro e w1 ⟨rfl, hb⟩
          obtain ⟨hB, hc0, hc1⟩ := box2 hb
          have HB := Lib.hid hB
          clear hB hb
          go_wp2_with (go_at_call 72; refine (in_any _ _ _ _).mono ?_; rintro e w' ⟨rfl, rfl⟩)
          go_ret
          exact ⟨ret_int HR.out.symm, HB.out⟩
        · have hin : inB n 0 120 = false := inB_no hn
          clear hok hn
          go_enter Tryz.func104, Tryz.ntmps104
          go_wp2_with fail
          with_reducible refine (CO.out _ (Lib.hid (box_b _ _))).mono ?_
          rintro e w1 ⟨rfl, hb⟩
          obtain ⟨hB, hc0, hc1⟩ := box2 hb
          have HB := Lib.hid hB
          clear hB hb
          go_wp2_with (go_at_call 72; refine (in_any _ _ _ _).mono ?_; rintro e w' ⟨rfl, rfl⟩)
          go_ret
          exact ⟨ret_int HR.out.symm, HB.out⟩
  · have HR : Hid (anE r f xs x b n = coE r f xs x) := Lib.hid (by unfold anE; rw [if_neg hz])
    obtain ⟨E, hE⟩ : ∃ E, coE r f xs x = E := ⟨_, rfl⟩
    rw [hE] at CO HR hz
    have hne : (E != 0) = true := by simp [hz]
    clear hE hz
    go_enter Tryz.func104, Tryz.ntmps104
    go_wp2_with fail
    with_reducible refine (CO.out _ (Lib.hid (box_b _ _))).mono ?_
    rintro e w1 ⟨rfl, hb⟩
    obtain ⟨hB, hc0, hc1⟩ := box2 hb
    have HB := Lib.hid hB
    clear hB hb
    go_wp2_with fail
    go_ret
    exact ⟨ret_int HR.out.symm, HB.out⟩

def lifeV (r f : Int) (xs : List Int) (x b : Int) : Int := if anE r f xs x (inB b 1 1000000) 0 = 0 then upV b (cN r xs (x - f).toNat) (cD r xs (x - f).toNat) else 0

def termV (r f : Int) (xs : List Int) (x b n : Int) : Int := if anE r f xs x (inB b 1 1000000) n = 0 then upV b (cN r xs (x - f).toNat - cN r xs (x + n - f).toNat) (cD r xs (x - f).toNat) else 0

def lateV (r f : Int) (xs : List Int) (x b n : Int) : Int := if anE r f xs x (inB b 1 1000000) n = 0 then upV b (cN r xs (x + n - f).toNat) (cD r xs (x - f).toNat) else 0

def sureV (r f : Int) (xs : List Int) (x b n : Int) : Int := if anE r f xs x (inB b 1 1000000) n = 0 then upV b (dsum r 0 n.toNat) 1000000000 + upV b (cN r xs (x + n - f).toNat) (cD r xs (x - f).toNat) else 0

def amtV (r f : Int) (xs : List Int) (x p : Int) : Int := if anE r f xs x (inB p 1 1000000000) 0 = 0 then p * cD r xs (x - f).toNat / cN r xs (x - f).toNat else 0

def IIPost (v E : Int) (w : World) (e : Ending) (w' : World) : Prop := e = .returned (.tuple #[.int .i64 v, .int .i64 E]) ∧ Below w.heap.size w w'

theorem cell_drew {w : World} {p : Addr} {v : Value} (h : w.cell? p = some v) : w.drew.cell? p = some v := h

/-- a part of N, n years later -/
theorem LTab.late {f : Int} {xs : List Int} (h : LTab f xs) (r : Int) (r0 : 0 ≤ r) (x n : Int) (x0 : f ≤ x) (n0 : 0 ≤ n) : 0 ≤ cN r xs (x + n - f).toNat ∧ cN r xs (x + n - f).toNat ≤ cN r xs (x - f).toNat := by
  refine ⟨(h.cN_bd r r0 _).1, ?_⟩
  have := h.cN_mono r r0 (x - f).toNat n.toNat
  rw [show (x - f).toNat + n.toNat = (x + n - f).toNat by omega] at this
  exact this

theorem upV_bd (a b c m : Int) (h0 : 0 ≤ a) (h1 : 0 ≤ b) (h2 : 1 ≤ c) (hq : a * b / c ≤ m) : 0 ≤ upV a b c ∧ upV a b c ≤ m + 1 := by
  have := Int.ediv_nonneg (Int.mul_nonneg h0 h1) (show 0 ≤ c by omega)
  unfold upV
  split <;> omega

theorem sure_q (r b : Int) (n : Int) (r0 : 0 ≤ r) (n0 : 0 ≤ n) (n1 : n ≤ 120) (b0 : 0 ≤ b) (b1 : b ≤ 1000000) : 0 ≤ dsum r 0 n.toNat ∧ dsum r 0 n.toNat ≤ 120000000000 ∧ b * dsum r 0 n.toNat / 1000000000 ≤ 120000000 := by
  obtain ⟨d0, d1⟩ := dsum_bd r r0 0 n.toNat
  refine ⟨d0, by omega, ?_⟩
  have e : b * dsum r 0 n.toNat ≤ 1000000 * 120000000000 := Int.mul_le_mul b1 (by omega) d0 (by omega)
  omega

end Go.Proofs.YtnclncglmnbelaaGreat

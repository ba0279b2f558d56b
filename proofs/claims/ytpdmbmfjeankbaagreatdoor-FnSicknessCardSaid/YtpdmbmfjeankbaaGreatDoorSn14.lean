/- Merged: Ann, Sic, Bxs, ColL, Till. -/
import Derived.Test.YtpdmbmfjeankbaaGreatDoorSn4
import Derived.Test.YtpdmbmfjeankbaaGreatDoorSn6
import Derived.Test.YtpdmbmfjeankbaaGreatDoorSn13
import Derived.Deep.RegionHeld3

/- Annuities: numbers, and the model's functions. | Annuities: the model's prices. (Written by wip/gen/annt.py.) -/
namespace Go.Proofs.YtpdmbmfjeankbaaGreatDoor
open Go.ChangeShapes Go.WideShapes Go.ChangeAt Go.RowKit
set_option linter.unusedVariables false
set_option maxRecDepth 100000

/-- a product divided and rounded up -/
def upV (a b c : Int) : Int := a * b / c + (if 0 < a * b % c then 1 else 0)

theorem LTab.cD_le {f : Int} {xs : List Int} (h : LTab f xs) (r : Int) (r0 : 0 ≤ r) (k : Nat) : cD r xs (k + 1) ≤ cD r xs k :=
  Int.mul_le_mul (h.step k) (disc_le r r0 k) (disc_bd r r0 (k + 1)).1 (h.nonneg k)

theorem LTab.cD_mono {f : Int} {xs : List Int} (h : LTab f xs) (r : Int) (r0 : 0 ≤ r) (k n : Nat) : cD r xs (k + n) ≤ cD r xs k := by
  induction n with
  | zero => exact Int.le_refl _
  | succ n ih => exact Int.le_trans (h.cD_le r r0 (k + n)) ih

theorem LTab.cN_le {f : Int} {xs : List Int} (h : LTab f xs) (r : Int) (r0 : 0 ≤ r) (k : Nat) : cN r xs k ≤ 152 * cD r xs k := by
  have : ∀ n : Nat, fsum (cD r xs) k n ≤ n * cD r xs k := by
    intro n
    induction n with
    | zero => simp [fsum]
    | succ n ih =>
      rw [fsum]
      have := h.cD_mono r r0 k n
      rw [show ((n + 1 : Nat) : Int) * cD r xs k = (n : Int) * cD r xs k + cD r xs k by rw [Int.natCast_add, Int.add_mul]; omega]
      omega
  exact this 152

theorem LTab.cN_mono {f : Int} {xs : List Int} (h : LTab f xs) (r : Int) (r0 : 0 ≤ r) (k n : Nat) : cN r xs (k + n) ≤ cN r xs k := by
  induction n with
  | zero => exact Int.le_refl _
  | succ n ih =>
    have := h.cN_step r (k + n)
    have := (h.cD_bd r r0 (k + n)).1
    rw [show k + (n + 1) = k + n + 1 by omega]
    omega

theorem LTab.cN_ge {f : Int} {xs : List Int} (h : LTab f xs) (r : Int) (r0 : 0 ≤ r) (k : Nat) : cD r xs k ≤ cN r xs k := by
  have := h.cN_step r k
  have := (h.cN_bd r r0 (k + 1)).1
  omega

/-- a part of N, times an amount, over D -/
theorem LTab.quot {f : Int} {xs : List Int} (h : LTab f xs) (r : Int) (r0 : 0 ≤ r) (k : Nat) (u b : Int) (u0 : 0 ≤ u) (u1 : u ≤ cN r xs k) (hd : cD r xs k ≠ 0) (b0 : 0 ≤ b) (b1 : b ≤ 1000000) :
    u ≤ 1000000000000000000 ∧ 1 ≤ cD r xs k ∧ cD r xs k ≤ 1000000000000000000 ∧ b * u / cD r xs k ≤ 152000000 := by
  have e1 := (h.cN_bd r r0 k).2
  have e2 := h.cD_bd r r0 k
  have e3 := h.cN_le r r0 k
  refine ⟨by omega, by omega, by omega, ?_⟩
  have e4 : b * u ≤ b * (152 * cD r xs k) := Int.mul_le_mul_of_nonneg_left (by omega) b0
  have e5 : b * u / cD r xs k ≤ b * (152 * cD r xs k) / cD r xs k := Int.ediv_le_ediv (by omega) e4
  rw [← Int.mul_assoc, Int.mul_ediv_cancel _ hd] at e5
  omega

theorem upV_eq (a b c : Int) (hc : 1 ≤ c) : ∃ q r : Int, a * b / c = q ∧ a * b % c = r ∧ 0 ≤ r ∧ r < c ∧ (r = 0 → upV a b c = q) ∧ (0 < r → upV a b c = q + 1) := by
  refine ⟨_, _, rfl, rfl, Int.emod_nonneg _ (by omega), Int.emod_lt_of_pos _ (by omega), fun h => ?_, fun h => ?_⟩
  · unfold upV; rw [h]; simp
  · unfold upV; rw [if_pos h]

theorem sup_any (a b c : Int) (w : World) (a0 : 0 ≤ a) (a1 : a ≤ 1000000000000) (b0 : 0 ≤ b) (b1 : b ≤ 1000000000000000000) (c0 : 1 ≤ c) (c1 : c ≤ 1000000000000000000) (hq : a * b / c ≤ 100000000000000000) :
    Calls Tryz.prog 28 #[.int .i64 a, .int .i64 b, .int .i64 c] w fun e w' => e = .returned (.int .i64 (upV a b c)) ∧ w = w' := by
  have HC := Lib.hid (fun W => sdiv_any a b c W a0 a1 b0 b1 c0 c1)
  obtain ⟨e1, e2⟩ := md_small a b c (by omega)
  rw [e1, e2] at HC
  obtain ⟨q, r, hq1, hr1, r0, r1, g1, g2⟩ := upV_eq a b c c0
  have q0 : 0 ≤ q := by rw [← hq1]; exact Int.ediv_nonneg (Int.mul_nonneg a0 b0) (by omega)
  rw [hq1, hr1] at HC
  rw [hq1] at hq
  clear e1 e2 hq1 hr1
  by_cases hz : r = 0
  · have G := Lib.hid (g1 hz)
    subst hz
    clear g1 g2
    go_enter Tryz.func28, Tryz.ntmps28
    go_wp2_with (go_at_call 53; refine (HC.out _).mono ?_; rintro e w' ⟨rfl, rfl⟩)
    go_ret
    exact ⟨ret_int (by rw [G.out]), rfl⟩
  · have h1 : 1 ≤ r := by omega
    have G := Lib.hid (g2 (by omega))
    clear g1 g2
    go_enter Tryz.func28, Tryz.ntmps28
    go_wp2_with (go_at_call 53; refine (HC.out _).mono ?_; rintro e w' ⟨rfl, rfl⟩)
    go_ret
    exact ⟨ret_int (by rw [G.out]), rfl⟩

/-- the code of an annuity: b: is the amount right? -/
def anE (r f : Int) (xs : List Int) (x : Int) (b : Bool) (n : Int) : Int :=
  if coE r f xs x = 0 then (if b = true ∧ (0 ≤ n ∧ n ≤ 120) ∧ x + n ≤ 150 then (if cD r xs (x - f).toNat = 0 then 5 else 0) else 2) else coE r f xs x

theorem anE_iff {r f : Int} {xs : List Int} {x : Int} {b : Bool} {n : Int} : anE r f xs x b n = 0 ↔ coE r f xs x = 0 ∧ b = true ∧ (0 ≤ n ∧ n ≤ 120) ∧ x + n ≤ 150 ∧ cD r xs (x - f).toNat ≠ 0 := by
  unfold anE
  by_cases h1 : coE r f xs x = 0
  · by_cases h2 : b = true ∧ (0 ≤ n ∧ n ≤ 120) ∧ x + n ≤ 150
    · rw [if_pos h1, if_pos h2]
      by_cases h3 : cD r xs (x - f).toNat = 0
      · simp [h3]
      · simp [h3, h1, h2]
    · rw [if_pos h1, if_neg h2]
      constructor
      · intro h; omega
      · rintro ⟨_, a, b, c, _⟩; exact absurd ⟨a, b, c⟩ h2
  · rw [if_neg h1]
    constructor
    · intro h; exact absurd h h1
    · rintro ⟨h, _⟩; exact absurd h h1

theorem inB_no {x a b : Int} (h : ¬ (a ≤ x ∧ x ≤ b)) : inB x a b = false := by
  cases hc : inB x a b
  · rfl
  · exact absurd ((inB_iff _ _ _).1 hc) h

set_option maxHeartbeats 400000 in
theorem ancode_any (r f : Int) (xs : List Int) (a : Option Addr) (l c : Nat) (x : Int) (b : Bool) (n : Int) (w : World) (h : Ints w a l xs) :
    Calls Tryz.prog 50 #[.agg #[.int .i64 f, .slice a l c], .int .i64 r, .int .i64 x, .bool b, .int .i64 n] w fun e w' => e = .returned (.int .i64 (anE r f xs x b n)) ∧ Below w.heap.size w w' := by
  have H := Lib.hid h
  have CO : Hid (∀ W, Hid (Below w.heap.size w W) → Calls Tryz.prog 69 #[.agg #[.int .i64 f, .slice a l c], .int .i64 r, .int .i64 x] W fun e w' => e = .returned (.int .i64 (coE r f xs x)) ∧ Below W.heap.size W w') :=
    Lib.hid (fun W hW => scode_any r f xs a l c x W (H.out.on hW.out))
  clear h
  by_cases hz : coE r f xs x = 0
  · obtain ⟨ht, ⟨r0, r1⟩, x0, x1⟩ := coE_iff.1 hz
    obtain ⟨f0, f1⟩ := ht.1
    have CD : Hid (∀ W, Hid (Below w.heap.size w W) → Calls Tryz.prog 29 #[.agg #[.int .i64 f, .slice a l c], .int .i64 r, .int .i64 x] W fun e w' => e = .returned (.int .i64 (cD r xs (x - f).toNat)) ∧ Below W.heap.size W w') :=
      Lib.hid (fun W hW => sD_any r f xs a l c x W (H.out.on hW.out) ht r0 r1 x0 (by omega))
    rw [hz] at CO
    by_cases hok : b = true ∧ (0 ≤ n ∧ n ≤ 120) ∧ x + n ≤ 150
    · have HR : Hid (anE r f xs x b n = if cD r xs (x - f).toNat = 0 then 5 else 0) := Lib.hid (by unfold anE; rw [if_pos hz, if_pos hok])
      obtain ⟨rfl, ⟨n0, n1⟩, hn⟩ := hok
      have hin : inB n 0 120 = true := (inB_iff _ _ _).2 ⟨n0, n1⟩
      obtain ⟨D, hD⟩ : ∃ D, cD r xs (x - f).toNat = D := ⟨_, rfl⟩
      rw [hD] at CD HR
      clear hD hz ht
      by_cases hd : D = 0
      · subst hd
        go_enter Tryz.func50, Tryz.ntmps50
        go_wp2_with fail
        with_reducible refine (CO.out _ (Lib.hid (box_b _ _))).mono ?_
        rintro e w1 ⟨rfl, hb⟩
        obtain ⟨hB, hc0, hc1⟩ := box2 hb
        have HB := Lib.hid hB
        clear hB hb
        go_wp2_with (go_at_call 51; refine (in_any _ _ _ _).mono ?_; rintro e w' ⟨rfl, rfl⟩)
        with_reducible refine (CD.out _ HB).mono ?_
        rintro e w2 ⟨rfl, hb⟩
        have HB2 := Lib.hid (HB.out.trans (hb.mono HB.out.size))
        clear hb
        go_wp2_with fail
        go_ret
        exact ⟨ret_int (by rw [HR.out]; simp), HB2.out⟩
      · have hd2 : (D == 0) = false := by simp [hd]
        have HR2 : Hid (anE r f xs x true n = 0) := Lib.hid (by rw [HR.out, if_neg hd])
        clear hd HR
        go_enter Tryz.func50, Tryz.ntmps50
        go_wp2_with fail
        with_reducible refine (CO.out _ (Lib.hid (box_b _ _))).mono ?_
        rintro e w1 ⟨rfl, hb⟩
        obtain ⟨hB, hc0, hc1⟩ := box2 hb
        have HB := Lib.hid hB
        clear hB hb
        go_wp2_with (go_at_call 51; refine (in_any _ _ _ _).mono ?_; rintro e w' ⟨rfl, rfl⟩)
        with_reducible refine (CD.out _ HB).mono ?_
        rintro e w2 ⟨rfl, hb⟩
        have HB2 := Lib.hid (HB.out.trans (hb.mono HB.out.size))
        clear hb
        go_wp2_with fail
        go_ret
        exact ⟨ret_int HR2.out.symm, HB2.out⟩
    · have HR : Hid (anE r f xs x b n = 2) := Lib.hid (by unfold anE; rw [if_pos hz, if_neg hok])
      clear hz ht CD
      cases b
      · go_enter Tryz.func50, Tryz.ntmps50
        go_wp2_with fail
        with_reducible refine (CO.out _ (Lib.hid (box_b _ _))).mono ?_
        rintro e w1 ⟨rfl, hb⟩
        obtain ⟨hB, hc0, hc1⟩ := box2 hb
        have HB := Lib.hid hB
        clear hB hb
        go_wp2_with fail
        go_ret
        exact ⟨ret_int HR.out.symm, HB.out⟩
      · by_cases hn : 0 ≤ n ∧ n ≤ 120
        · have hin : inB n 0 120 = true := (inB_iff _ _ _).2 hn
          have hx : 150 < x + n := by simp [hn] at hok; omega
          obtain ⟨n0, n1⟩ := hn
          clear hok
          go_enter Tryz.func50, Tryz.ntmps50
          go_wp2_with fail
          with_reducible refine (CO.out _ (Lib.hid (box_b _ _))).mono ?_
          rintro e w1 ⟨rfl, hb⟩
          obtain ⟨hB, hc0, hc1⟩ := box2 hb
          have HB := Lib.hid hB
          clear hB hb
          go_wp2_with (go_at_call 51; refine (in_any _ _ _ _).mono ?_; rintro e w' ⟨rfl, rfl⟩)
          go_ret
          exact ⟨ret_int HR.out.symm, HB.out⟩
        · have hin : inB n 0 120 = false := inB_no hn
          clear hok hn
          go_enter Tryz.func50, Tryz.ntmps50
          go_wp2_with fail
          with_reducible refine (CO.out _ (Lib.hid (box_b _ _))).mono ?_
          rintro e w1 ⟨rfl, hb⟩
          obtain ⟨hB, hc0, hc1⟩ := box2 hb
          have HB := Lib.hid hB
          clear hB hb
          go_wp2_with (go_at_call 51; refine (in_any _ _ _ _).mono ?_; rintro e w' ⟨rfl, rfl⟩)
          go_ret
          exact ⟨ret_int HR.out.symm, HB.out⟩
  · have HR : Hid (anE r f xs x b n = coE r f xs x) := Lib.hid (by unfold anE; rw [if_neg hz])
    obtain ⟨E, hE⟩ : ∃ E, coE r f xs x = E := ⟨_, rfl⟩
    rw [hE] at CO HR hz
    have hne : (E != 0) = true := by simp [hz]
    clear hE hz
    go_enter Tryz.func50, Tryz.ntmps50
    go_wp2_with fail
    with_reducible refine (CO.out _ (Lib.hid (box_b _ _))).mono ?_
    rintro e w1 ⟨rfl, hb⟩
    obtain ⟨hB, hc0, hc1⟩ := box2 hb
    have HB := Lib.hid hB
    clear hB hb
    go_wp2_with fail
    go_ret
    exact ⟨ret_int HR.out.symm, HB.out⟩

def lifeV (r f : Int) (xs : List Int) (x b : Int) : Int := if anE r f xs x (inB b 1 1000000) 0 = 0 then upV b (cN r xs (x - f).toNat) (cD r xs (x - f).toNat) else 0

def termV (r f : Int) (xs : List Int) (x b n : Int) : Int := if anE r f xs x (inB b 1 1000000) n = 0 then upV b (cN r xs (x - f).toNat - cN r xs (x + n - f).toNat) (cD r xs (x - f).toNat) else 0

def lateV (r f : Int) (xs : List Int) (x b n : Int) : Int := if anE r f xs x (inB b 1 1000000) n = 0 then upV b (cN r xs (x + n - f).toNat) (cD r xs (x - f).toNat) else 0

def sureV (r f : Int) (xs : List Int) (x b n : Int) : Int := if anE r f xs x (inB b 1 1000000) n = 0 then upV b (dsum r 0 n.toNat) 1000000000 + upV b (cN r xs (x + n - f).toNat) (cD r xs (x - f).toNat) else 0

def amtV (r f : Int) (xs : List Int) (x p : Int) : Int := if anE r f xs x (inB p 1 1000000000) 0 = 0 then p * cD r xs (x - f).toNat / cN r xs (x - f).toNat else 0

def IIPost (v E : Int) (w : World) (e : Ending) (w' : World) : Prop := e = .returned (.tuple #[.int .i64 v, .int .i64 E]) ∧ Below w.heap.size w w'

theorem cell_drew {w : World} {p : Addr} {v : Value} (h : w.cell? p = some v) : w.drew.cell? p = some v := h

/-- a part of N, n years later -/
theorem LTab.late {f : Int} {xs : List Int} (h : LTab f xs) (r : Int) (r0 : 0 ≤ r) (x n : Int) (x0 : f ≤ x) (n0 : 0 ≤ n) : 0 ≤ cN r xs (x + n - f).toNat ∧ cN r xs (x + n - f).toNat ≤ cN r xs (x - f).toNat := by
  refine ⟨(h.cN_bd r r0 _).1, ?_⟩
  have := h.cN_mono r r0 (x - f).toNat n.toNat
  rw [show (x - f).toNat + n.toNat = (x + n - f).toNat by omega] at this
  exact this

theorem upV_bd (a b c m : Int) (h0 : 0 ≤ a) (h1 : 0 ≤ b) (h2 : 1 ≤ c) (hq : a * b / c ≤ m) : 0 ≤ upV a b c ∧ upV a b c ≤ m + 1 := by
  have := Int.ediv_nonneg (Int.mul_nonneg h0 h1) (show 0 ≤ c by omega)
  unfold upV
  split <;> omega

theorem sure_q (r b : Int) (n : Int) (r0 : 0 ≤ r) (n0 : 0 ≤ n) (n1 : n ≤ 120) (b0 : 0 ≤ b) (b1 : b ≤ 1000000) : 0 ≤ dsum r 0 n.toNat ∧ dsum r 0 n.toNat ≤ 120000000000 ∧ b * dsum r 0 n.toNat / 1000000000 ≤ 120000000 := by
  obtain ⟨d0, d1⟩ := dsum_bd r r0 0 n.toNat
  refine ⟨d0, by omega, ?_⟩
  have e : b * dsum r 0 n.toNat ≤ 1000000 * 120000000000 := Int.mul_le_mul b1 (by omega) d0 (by omega)
  omega

end Go.Proofs.YtpdmbmfjeankbaaGreatDoor

/- Sickness tables as lists of numbers: weeks, values, codes; what the model's small functions on them return. -/
namespace Go.Proofs.YtpdmbmfjeankbaaGreatDoor
open Go.ChangeShapes Go.WideShapes Go.ChangeAt Go.RowKit
set_option linter.unusedVariables false
set_option maxRecDepth 100000

/-- the weeks at an age -/
def wk (g : Int) (ys : List Int) (x : Int) : Int := if inB (x - g) 0 ((ys.length : Int) - 1) = true then ys.getD (x - g).toNat 0 else 0

theorem STab.wk_bd {g : Int} {ys : List Int} (h : STab g ys) (x : Int) : 0 ≤ wk g ys x ∧ wk g ys x ≤ 52000 := by
  unfold wk
  split
  · exact h.get _
  · omega

/-! ### the codes -/

/-- a sickness table alone -/
def siE (g : Int) (ys : List Int) : Int := if skB g ys = true then 0 else 1

theorem siE_iff {g : Int} {ys : List Int} : siE g ys = 0 ↔ STab g ys := by
  unfold siE; rw [← skB_iff]; split <;> simp_all

/-- .. and an age -/
def weE (g : Int) (ys : List Int) (x : Int) : Int := if skB g ys = true then (if inB x 0 150 = true then 0 else 2) else 1

def weV (g : Int) (ys : List Int) (x : Int) : Int := if weE g ys x = 0 then wk g ys x else 0

theorem weE_iff {g : Int} {ys : List Int} {x : Int} : weE g ys x = 0 ↔ STab g ys ∧ 0 ≤ x ∧ x ≤ 150 := by
  unfold weE; rw [← skB_iff, ← inB_iff]
  split
  · next h => split <;> simp_all
  · next h => simp [h]

/-- .. and a benefit for some years -/
def skE (r f : Int) (xs : List Int) (g : Int) (ys : List Int) (x n b : Int) : Int := if skB g ys = true then anE r f xs x (inB n 1 60 && inB b 1 100000) n else 1

/-- what must hold of a benefit's arguments -/
structure SkIn (r f : Int) (xs : List Int) (g : Int) (ys : List Int) (x n b : Int) : Prop where
  st : STab g ys
  lt : LTab f xs
  r0 : 0 ≤ r
  r1 : r ≤ 200
  x0 : f ≤ x
  n0 : 1 ≤ n
  n1 : n ≤ 60
  xn : x + n ≤ 150
  b0 : 1 ≤ b
  b1 : b ≤ 100000
  hd : cD r xs (x - f).toNat ≠ 0

theorem skE_iff {r f : Int} {xs : List Int} {g : Int} {ys : List Int} {x n b : Int} : skE r f xs g ys x n b = 0 ↔ SkIn r f xs g ys x n b := by
  unfold skE
  constructor
  · intro h
    split at h
    · next hs =>
      obtain ⟨hc, hb, ⟨n0, n1⟩, xn, hd⟩ := anE_iff.1 h
      obtain ⟨ht, ⟨r0, r1⟩, x0, x1⟩ := coE_iff.1 hc
      rw [Bool.and_eq_true, inB_iff, inB_iff] at hb
      exact ⟨(skB_iff _ _).1 hs, ht, r0, r1, x0, hb.1.1, hb.1.2, xn, hb.2.1, hb.2.2, hd⟩
    · cases h
  · intro h
    rw [if_pos ((skB_iff _ _).2 h.st)]
    have h1 := h.n0
    have h2 := h.n1
    have h3 := h.xn
    exact anE_iff.2 ⟨coE_iff.2 ⟨h.lt, ⟨h.r0, h.r1⟩, h.x0, by omega⟩, by rw [Bool.and_eq_true, inB_iff, inB_iff]; exact ⟨⟨h.n0, h.n1⟩, h.b0, h.b1⟩, by omega, h.xn, h.hd⟩

/-! ### values -/

/-- what the benefit costs for the year k -/
def svF (r f : Int) (xs : List Int) (g : Int) (ys : List Int) (x b : Int) (k : Nat) : Int := upV (b * wk g ys (x + k)) (cD r xs (x + k - f).toNat) (1000 * cD r xs (x - f).toNat)

/-- .. for n years -/
def svS (r f : Int) (xs : List Int) (g : Int) (ys : List Int) (x b : Int) (n : Nat) : Int := fsum (svF r f xs g ys x b) 0 n

def svV (r f : Int) (xs : List Int) (g : Int) (ys : List Int) (x n b : Int) : Int := if skE r f xs g ys x n b = 0 then svS r f xs g ys x b n.toNat else 0

def spV (r f : Int) (xs : List Int) (g : Int) (ys : List Int) (x n b : Int) : Int := if skE r f xs g ys x n b = 0 then upV (svS r f xs g ys x b n.toNat) (cD r xs (x - f).toNat) (cN r xs (x - f).toNat - cN r xs (x + n - f).toNat) else 0

theorem LTab.cD_later {f : Int} {xs : List Int} (h : LTab f xs) (r : Int) (r0 : 0 ≤ r) (x : Int) (x0 : f ≤ x) (k : Nat) : cD r xs (x + k - f).toNat ≤ cD r xs (x - f).toNat := by
  have := h.cD_mono r r0 (x - f).toNat k
  rw [show (x + k - f).toNat = (x - f).toNat + k by omega]; exact this

theorem quot_small (b u v : Int) (b0 : 0 ≤ b) (v0 : 1 ≤ v) (u1 : u ≤ v) : b * u / v ≤ b := by
  have h1 := Int.mul_le_mul_of_nonneg_left u1 b0
  have h2 := Int.ediv_le_ediv (show 0 < v by omega) h1
  rw [Int.mul_ediv_cancel _ (show v ≠ 0 by omega)] at h2
  exact h2

/-- the numbers of a year's price, and what comes of them -/
theorem SkIn.year {r f : Int} {xs : List Int} {g : Int} {ys : List Int} {x n b : Int} (h : SkIn r f xs g ys x n b) (k : Nat) :
    ∃ W L D : Int, wk g ys (x + k) = W ∧ cD r xs (x + k - f).toNat = L ∧ cD r xs (x - f).toNat = D ∧ svF r f xs g ys x b k = upV (b * W) L (1000 * D) ∧ 0 ≤ W ∧ W ≤ 52000 ∧ 0 ≤ b * W ∧ b * W ≤ 5200000000 ∧ 0 ≤ L ∧ L ≤ 1000000000000000 ∧ 1 ≤ D ∧ D ≤ 1000000000000000 ∧ b * W * L / (1000 * D) ≤ 5200000 ∧ 0 ≤ upV (b * W) L (1000 * D) ∧ upV (b * W) L (1000 * D) ≤ 5200001 := by
  refine ⟨_, _, _, rfl, rfl, rfl, rfl, ?_⟩
  obtain ⟨w0, w1⟩ := h.st.wk_bd (x + k)
  obtain ⟨l0, l1⟩ := h.lt.cD_bd r h.r0 (x + k - f).toNat
  obtain ⟨d0, d1⟩ := h.lt.cD_bd r h.r0 (x - f).toNat
  have hle := h.lt.cD_later r h.r0 x h.x0 k
  have hd := h.hd
  have hb0 := h.b0
  have hb1 := h.b1
  generalize wk g ys (x + k) = W at *
  generalize cD r xs (x + k - f).toNat = L at *
  generalize cD r xs (x - f).toNat = D at *
  have p0 : 0 ≤ b * W := Int.mul_nonneg (by omega) w0
  have p1 : b * W ≤ 5200000000 := by
    have := Int.mul_le_mul hb1 w1 w0 (by omega); omega
  have q : b * W * L / (1000 * D) ≤ 5200000 := by
    have h1 := quot_small (b * W) L D p0 (by omega) hle
    rw [show b * W * L / (1000 * D) = b * W * L / D / 1000 by rw [Int.ediv_ediv_of_nonneg (by omega : (0 : Int) ≤ D), Int.mul_comm 1000 D]]
    omega
  obtain ⟨u0, u1⟩ := upV_bd (b * W) L (1000 * D) 5200000 p0 l0 (by omega) q
  exact ⟨w0, w1, p0, p1, l0, l1, by omega, d1, q, u0, u1⟩

theorem fsum_bdB (F : Nat → Int) (B : Int) (h : ∀ j, 0 ≤ F j ∧ F j ≤ B) (k n : Nat) : 0 ≤ fsum F k n ∧ fsum F k n ≤ n * B := by
  induction n with
  | zero => simp [fsum]
  | succ n ih =>
    have := h (k + n)
    rw [fsum]
    have e : ((n + 1 : Nat) : Int) * B = n * B + B := by rw [Int.natCast_add, Int.add_mul]; simp
    rw [e]; omega

theorem SkIn.sum_bd {r f : Int} {xs : List Int} {g : Int} {ys : List Int} {x n b : Int} (h : SkIn r f xs g ys x n b) (k : Nat) (hk : k ≤ 60) : 0 ≤ svS r f xs g ys x b k ∧ svS r f xs g ys x b k ≤ 312000060 := by
  have := fsum_bdB (svF r f xs g ys x b) 5200001 (fun j => by
    obtain ⟨W, L, D, _, _, _, e, _, _, _, _, _, _, _, _, _, u0, u1⟩ := h.year j
    rw [e]; exact ⟨u0, u1⟩) 0 k
  unfold svS
  omega

theorem svS_succ (r f : Int) (xs : List Int) (g : Int) (ys : List Int) (x b : Int) (k : Nat) : svS r f xs g ys x b (k + 1) = svS r f xs g ys x b k + svF r f xs g ys x b k := by
  unfold svS; rw [fsum, Nat.zero_add]

/-- behind the last living nothing is added -/
theorem SkIn.stop {r f : Int} {xs : List Int} {g : Int} {ys : List Int} {x n b : Int} (h : SkIn r f xs g ys x n b) (k m : Nat) (hk : k ≤ m) (hz : cD r xs (x + k - f).toNat = 0) : svS r f xs g ys x b m = svS r f xs g ys x b k := by
  obtain ⟨d, rfl⟩ : ∃ d, m = k + d := ⟨m - k, by omega⟩
  unfold svS
  refine fsum_more _ k 0 k (fun j hj => ?_) (by omega) d
  have h1 := h.lt.cD_later r h.r0 (x + k) (by have := h.x0; omega) (j - k)
  rw [show x + (k : Int) + ((j - k : Nat) : Int) = x + j by omega, hz] at h1
  have h2 := (h.lt.cD_bd r h.r0 (x + j - f).toNat).1
  have h3 : cD r xs (x + j - f).toNat = 0 := by omega
  unfold svF upV
  rw [h3]; simp

/-- the numbers of a premium -/
theorem SkIn.prem {r f : Int} {xs : List Int} {g : Int} {ys : List Int} {x n b : Int} (h : SkIn r f xs g ys x n b) :
    ∃ S D N M : Int, svS r f xs g ys x b n.toNat = S ∧ cD r xs (x - f).toNat = D ∧ cN r xs (x - f).toNat = N ∧ cN r xs (x + n - f).toNat = M ∧ 0 ≤ S ∧ S ≤ 312000060 ∧ 1 ≤ D ∧ D ≤ 1000000000000000 ∧ 0 ≤ N ∧ N ≤ 152000000000000000 ∧ 0 ≤ M ∧ M ≤ 152000000000000000 ∧ 1 ≤ N - M ∧ S * D / (N - M) ≤ 312000060 := by
  refine ⟨_, _, _, _, rfl, rfl, rfl, rfl, ?_⟩
  have hn0 := h.n0
  have hx0 := h.x0
  obtain ⟨s0, s1⟩ := h.sum_bd n.toNat (by have := h.n1; omega)
  obtain ⟨d0, d1⟩ := h.lt.cD_bd r h.r0 (x - f).toNat
  obtain ⟨n0, n1⟩ := h.lt.cN_bd r h.r0 (x - f).toNat
  obtain ⟨m0, m1⟩ := h.lt.cN_bd r h.r0 (x + n - f).toNat
  have h1 := h.lt.cN_step r (x - f).toNat
  have h2 := h.lt.cN_mono r h.r0 ((x - f).toNat + 1) (n.toNat - 1)
  rw [show (x - f).toNat + 1 + (n.toNat - 1) = (x + n - f).toNat by omega] at h2
  have hd := h.hd
  generalize svS r f xs g ys x b n.toNat = S at *
  generalize cD r xs (x - f).toNat = D at *
  generalize cN r xs (x - f).toNat = N at *
  generalize cN r xs (x + n - f).toNat = M at *
  have hN : D ≤ N - M := by omega
  have hq := quot_small S D (N - M) s0 (by omega) hN
  exact ⟨s0, s1, by omega, d1, n0, n1, m0, m1, by omega, by omega⟩

/-! ### the model's walks -/

theorem swk_any (g : Int) (ys : List Int) (a : Option Addr) (l c : Nat) (x : Int) (w : World) (h : Ints w a l ys) (g0 : 0 ≤ g) (g1 : g ≤ 100) (x0 : 0 ≤ x) (x1 : x ≤ 1000) (hl : l ≤ 1000) :
    Calls Tryz.prog 52 #[.agg #[.int .i64 g, .slice a l c], .int .i64 x] w fun e w' => e = .returned (.int .i64 (wk g ys x)) ∧ Below w.heap.size w w' := by
  have HL := Lib.hid h.len
  have H := Lib.hid h
  clear h
  have HR0 : Hid (wk g ys x = if inB (x - g) 0 ((l : Int) - 1) = true then ys.getD (x - g).toNat 0 else 0) := Lib.hid (by unfold wk; rw [HL.out])
  have q1 : IntKind.i64.wrap (x - g) = x - g := IntWalk.i64_in _ (by omega)
  have q2 : IntKind.i64.wrap ((l : Int) - 1) = (l : Int) - 1 := IntWalk.i64_in _ (by omega)
  by_cases hin : inB (x - g) 0 ((l : Int) - 1) = true
  · obtain ⟨i0, i1⟩ := (inB_iff _ _ _).1 hin
    obtain ⟨b, off, rfl, hb, hc⟩ := H.out.at (by omega)
    have hx := hc (x - g).toNat (by omega)
    obtain ⟨v, hv⟩ : ∃ v, ys.getD (x - g).toNat 0 = v := ⟨_, rfl⟩
    rw [hv] at hx
    have HR : Hid (wk g ys x = v) := Lib.hid (by rw [HR0.out, if_pos hin, hv])
    have q3 : (x - g).toNat < l := by omega
    clear hv hc HR0
    go_enter Tryz.func52, Tryz.ntmps52
    go_wp2_with (go_at_call 51; refine (in_any _ _ _ _).mono ?_; rintro e w' ⟨rfl, rfl⟩)
    go_ret
    exact ⟨ret_int HR.out.symm, box_b _ _⟩
  · have HR : Hid (wk g ys x = 0) := Lib.hid (by rw [HR0.out, if_neg hin])
    have hin2 : inB (x - g) 0 ((l : Int) - 1) = false := by simpa using hin
    clear HR0 hin
    go_enter Tryz.func52, Tryz.ntmps52
    go_wp2_with (go_at_call 51; refine (in_any _ _ _ _).mono ?_; rintro e w' ⟨rfl, rfl⟩)
    go_ret
    exact ⟨ret_int HR.out.symm, box_b _ _⟩

end Go.Proofs.YtpdmbmfjeankbaaGreatDoor

/- Boxes: blocks told by their values; the boxes of two tables. -/
namespace Go.Proofs.YtpdmbmfjeankbaaGreatDoor
open Go.ChangeShapes Go.WideShapes Go.ChangeAt Go.RowKit
set_option linter.unusedVariables false

/-- a block of plain cells -/
def Bx (w : World) (B : Nat) (vs : List Value) : Prop := ∃ T, w.heap[B]? = some (.cells vs.toArray T (0, 0))

theorem Bx.two {w : World} {B : Nat} {x y : Value} (h : Bx w B [x, y]) : w.cell? ⟨B, 0, none⟩ = some x ∧ w.cell? ⟨B, 1, none⟩ = some y := by
  obtain ⟨T, h⟩ := h
  simp [World.cell?, h]

theorem Bx.four {w : World} {B : Nat} {x y z u : Value} (h : Bx w B [x, y, z, u]) : w.cell? ⟨B, 0, none⟩ = some x ∧ w.cell? ⟨B, 1, none⟩ = some y ∧ w.cell? ⟨B, 2, none⟩ = some z ∧ w.cell? ⟨B, 3, none⟩ = some u := by
  obtain ⟨T, h⟩ := h
  simp [World.cell?, h]

theorem Bx.free {w : World} {B : Nat} {vs : List Value} (h : Bx w B vs) (i : Nat) : w.frozen? ⟨B, i, none⟩ = false := by
  obtain ⟨T, h⟩ := h
  simp [World.frozen?, h]

theorem Bx.lt {w : World} {B : Nat} {vs : List Value} (h : Bx w B vs) : B < w.heap.size := by
  obtain ⟨T, h⟩ := h
  by_cases hb : B < w.heap.size
  · exact hb
  · have : w.heap[B]? = none := by simp; omega
    rw [this] at h; cases h

theorem Bx.same {w w' : World} {B : Nat} {vs : List Value} (h : Bx w B vs) (hb : w'.heap[B]? = w.heap[B]?) : Bx w' B vs := by
  obtain ⟨T, h⟩ := h
  exact ⟨T, by rw [hb, h]⟩

theorem Bx.on {w w' : World} {B : Nat} {vs : List Value} (h : Bx w B vs) (hb : Below w.heap.size w w') : Bx w' B vs := h.same (hb.block _ h.lt)

theorem Bx.new (w : World) (vs : List Value) (T : TypeId) : Bx (w.alloc (.cells vs.toArray T)) w.heap.size vs := ⟨T, heap_alloc_new _ _⟩

/-- the boxes of two tables -/
structure K2 (w : World) (f : Int) (sa : Value) (g : Int) (sb : Value) (W : World) : Prop where
  t0 : W.cell? ⟨w.heap.size, 0, none⟩ = some (.int .i64 f)
  t1 : W.cell? ⟨w.heap.size, 1, none⟩ = some sa
  u0 : W.cell? ⟨w.heap.size + 1, 0, none⟩ = some (.int .i64 g)
  u1 : W.cell? ⟨w.heap.size + 1, 1, none⟩ = some sb
  low : Below w.heap.size w W

theorem K2.on {w : World} {f : Int} {sa : Value} {g : Int} {sb : Value} {W W' : World} (h : K2 w f sa g sb W) (hb : Below W.heap.size W W') : K2 w f sa g sb W' :=
  ⟨keep2 hb h.t0, keep2 hb h.t1, keep2 hb h.u0, keep2 hb h.u1, h.low.trans (hb.mono h.low.size)⟩

theorem K2.new (w : World) (f : Int) (sa : Value) (g : Int) (sb : Value) (T U : TypeId) : K2 w f sa g sb ((w.alloc (.cells #[.int .i64 f, sa] T)).alloc (.cells #[.int .i64 g, sb] U)) := by
  have h1 := Bx.new w [.int .i64 f, sa] T
  have h2 := Bx.new (w.alloc (.cells #[.int .i64 f, sa] T)) [.int .i64 g, sb] U
  have h3 := h1.on (box_b (w.alloc (.cells #[.int .i64 f, sa] T)) (.cells #[.int .i64 g, sb] U))
  rw [World.size_alloc] at h2
  exact ⟨h3.two.1, h3.two.2, h2.two.1, h2.two.2, (box_b _ _).alloc (by simp) _⟩

theorem k2S {w : World} {f : Int} {sa : Value} {g : Int} {sb : Value} {W : World} (h : K2 w f sa g sb W) :
    W.cell? ⟨w.heap.size, 0, none⟩ = some (.int .i64 f) ∧ W.cell? ⟨w.heap.size, 1, none⟩ = some sa ∧ W.cell? ⟨w.heap.size + 1, 0, none⟩ = some (.int .i64 g) ∧ W.cell? ⟨w.heap.size + 1, 1, none⟩ = some sb ∧ Hid (K2 w f sa g sb W) := ⟨h.t0, h.t1, h.u0, h.u1, Lib.hid h⟩

theorem K2.drew {w : World} {f : Int} {sa : Value} {g : Int} {sb : Value} {W : World} (h : K2 w f sa g sb W) : K2 w f sa g sb W.drew := ⟨cell_drew h.t0, cell_drew h.t1, cell_drew h.u0, cell_drew h.u1, h.low.drew⟩

theorem K2.rb {w : World} {f : Int} {sa : Value} {g : Int} {sb : Value} (T U V : TypeId) (vs : List Value) : K2 w f sa g sb (((w.alloc (.cells #[.int .i64 f, sa] T)).alloc (.cells #[.int .i64 g, sb] U)).alloc (.cells vs.toArray V)) ∧ Bx (((w.alloc (.cells #[.int .i64 f, sa] T)).alloc (.cells #[.int .i64 g, sb] U)).alloc (.cells vs.toArray V)) (w.heap.size + 2) vs := by
  have h1 := K2.new w f sa g sb T U
  have h2 := Bx.new ((w.alloc (.cells #[.int .i64 f, sa] T)).alloc (.cells #[.int .i64 g, sb] U)) vs V
  rw [World.size_alloc, World.size_alloc] at h2
  exact ⟨h1.on (box_b _ _), h2⟩

end Go.Proofs.YtpdmbmfjeankbaaGreatDoor

/- Lists of columns: the model's list and its four functions. -/
namespace Go.Proofs.YtpdmbmfjeankbaaGreatDoor
open Go.ChangeShapes Go.WideShapes Go.ChangeAt Go.RowKit
set_option linter.unusedVariables false
set_option maxRecDepth 100000

/-- the first n values of a column -/
def colL (F : Nat → Int) (n : Nat) : List Int := (List.range n).map F

theorem colL_len (F : Nat → Int) (n : Nat) : (colL F n).length = n := by simp [colL]

theorem colL_snoc (F : Nat → Int) (n : Nat) : colL F (n + 1) = colL F n ++ [F n] := by simp [colL, List.range_succ]

theorem colL_get (F : Nat → Int) (n k : Nat) (h : k < n) : (colL F n).getD k 0 = F k := by simp [colL, List.getD, h]

theorem one_newC (w : World) (x : Int) : ∀ j u, [Value.int .i64 x][j]? = some u → (w.alloc (.cells #[.int .i64 x] 2)).cell? ((⟨w.heap.size, 0, none⟩ : Addr).add j) = some u := by
  intro j u hj
  match j, hj with
  | 0, hj => simp at hj; subst hj; simp [Addr.add]

theorem OwnI.on {base : Nat} {w w' : World} {v : Value} {xs : List Int} (h : OwnI base w v xs) (hb : Below w.heap.size w w') : OwnI base w' v xs :=
  h.same fun k _ hk => hb.block k hk

theorem own_tb {base : Nat} {w : World} {v : Value} {ys : List Int} (h : OwnI base w v ys) (hl : ys.length ≤ 4096) : ∃ a c, v = .slice a ys.length c ∧ TbR base w a ys.length ys := by
  have hh := h
  rcases h.2 with ⟨rfl, hn⟩ | ⟨g, cap, cur, rfl, hbg, hg, -⟩
  · refine ⟨none, 0, ?_, rfl, hl, .inl ⟨rfl, hn⟩⟩
    rw [hn]
  · exact ⟨_, cap, rfl, rfl, hl, .inr ⟨g, 0, rfl, hbg, (hh.lt g rfl).2, hh.row⟩⟩

theorem app_below {base : Nat} {wr w1 : World} {v : Value} {xs : List Int} {o : Obj} (hown : OwnI base wr v xs) (hbs : base ≤ wr.heap.size) (hg : (wr.alloc o).grownBy w1 v.ownBlock) : Below base wr w1 :=
  ((Below.refl _ _).alloc hbs o).grown hg (by simp; omega) fun k hk => (hown.lt k hk).1

/-- what the list of a column is: empty beside an error -/
def clY (F : Nat → Int) (r f : Int) (xs : List Int) : List Int := if coE r f xs f = 0 then colL F xs.length else []

theorem ls_cond {E : Int} {ys : List Int} {w w' : World} {v : Value} {base : Nat} (h : OwnI base w' v ys) (hl : ys.length ≤ 4096) (hb : Below w.heap.size w w') (hbs : w.heap.size ≤ base) (he : E = 0) {Y : List Int} (hY : Y = ys) :
    LsPost Y E w (.returned (.tuple #[v, .int .i64 0])) w' := by
  subst he; subst hY
  obtain ⟨a, c, rfl, ht⟩ := own_tb h hl
  exact ⟨a, _, c, rfl, ht.mono hbs, hb⟩

theorem ls_nil {E e : Int} {Y : List Int} {w w' : World} (hb : Below w.heap.size w w') (he : E = e) (hY : Y = []) : LsPost Y E w (.returned (.tuple #[.slice none 0 0, .int .i64 e])) w' := by
  subst he; subst hY
  exact ⟨none, 0, 0, rfl, ⟨rfl, by omega, .inl ⟨rfl, rfl⟩⟩, hb⟩

end Go.Proofs.YtpdmbmfjeankbaaGreatDoor

/- A region that draws its order, whose last operation L stores into a cell that the region has loaded: a condition that holds till then; append at a step of such a region; boxes behind stores. -/
namespace Go.Proofs.YtpdmbmfjeankbaaGreatDoor
open Go.ChangeShapes Go.WideShapes Go.ChangeAt Go.RowKit
set_option linter.unusedVariables false
set_option maxRecDepth 100000

/-- append at a step of a region that draws its order -/
theorem step_apj {w : World} {ops : Array Oper} {o : Oper} {a : Act} {K : Act → World → Prop} {Q : Exit → Act → World → Prop} {E : Prop} (hgd : o.guard = none) (s x : Operand)
    (ho : o.op = .call { callee := .builtin .append, args := #[s, x], argTypes := #[24, 24] })
    (base : Nat) (v : Value) (xs : List Int) (y : Int) (hs : a.eval s = v) (hown : OwnI base w v xs) (ad : Addr) (hx : a.eval x = .slice (some ad) 1 1) (hc : ∀ j u, [Value.int .i64 y][j]? = some u → w.cell? (ad.add j) = some u)
    (hlen : xs.length ≤ 4096) (hbase : base ≤ w.heap.size)
    (h : ∀ v' w', OwnI base w' v' (xs ++ [y]) → w.grownBy w' v.ownBlock → (v'.ownBlock = v.ownBlock ∨ v'.ownBlock = some w.heap.size) → K (a.put o.dst v') w') :
    if Region.wanted o (yielded ops a.tmps) = true then Oper.wp Tryz.prog o a w K Q else E := by
  obtain ⟨i0, hi, hz0, hz1, hz2⟩ := info_parts infoI
  have hm : maxLen = maxLen := rfl
  unfold maxLen at hm
  obtain ⟨v', w', hr, h2, h3, h4⟩ := run_append_own (P := Tryz.prog) w base 24 o.type 2 i0 (.int .i64 0) 1 8 Tryz.underlying24 hi hz0 hz1 hz2 rfl (by decide) v xs.length (xs.map (Value.int .i64)) hown ad 1 1 [.int .i64 y] rfl hc (by intro u hu; simp at hu; subst hu; rfl) (by unfold maxLen; omega) (by omega) hbase
  have h5 := append_where ad y hown hc hlen hbase v' w' o.type hr
  have h6 : OwnI base w' v' (xs ++ [y]) := by
    unfold OwnI
    rw [List.length_append, List.length_singleton, List.map_append]
    exact h2
  have hw : Region.wanted o (yielded ops a.tmps) = true := by simp [Region.wanted, hgd]
  rw [if_pos hw]
  unfold Oper.wp execOp
  simp only [ho, resolve, invoke, builtin, Sem.run_bind, Sem.run_pure, Result.andThen_ok, List.map_toArray, List.map_cons, List.map_nil, hs, hx, hr]
  exact h v' w' h6 h3 h5

theorem far_setCell (w : World) (p : Addr) (v : Value) (k : Nat) (h : k ≠ p.block) : (w.setCell p v).heap[k]? = w.heap[k]? := by
  show (w.heap.modify p.block _)[k]? = _
  rw [Array.getElem?_modify, if_neg (fun e => h e.symm)]

theorem Bx.set1 {w : World} {B : Nat} {x y : Value} (h : Bx w B [x, y]) (z : Value) : Bx (w.setCell ⟨B, 1, none⟩ z) B [x, z] := by
  have hl := h.lt
  obtain ⟨T, h⟩ := h
  rw [Array.getElem?_eq_getElem hl] at h
  have h' : w.heap[B] = .cells #[x, y] T (0, 0) := by simpa using h
  refine ⟨T, ?_⟩
  show (w.heap.modify B _)[B]? = _
  rw [Array.getElem?_modify, if_pos rfl, Array.getElem?_eq_getElem hl, h']
  simp

/-- behind an append: the boxes of the joint table are as they were -/
theorem Bx.grown {w w5 : World} {o : Obj} {B : Nat} {vs : List Value} {row : Option Nat} (h : Bx w B vs) (hg : (w.alloc o).grownBy w5 row) (hn : some B ≠ row) : Bx w5 B vs :=
  (h.on (box_b w o)).same (hg.block B (by have := h.lt; simp; omega) hn)

/-- in whatever order, and S behind each operation but L -/
def wpTill (Pg : Program) (md : Region.Mode) (ops : Array Oper) (Q : Exit → Act → World → Prop) (S : World → Prop) (L : Nat) : Nat → Array Bool → Act → World → Prop
  | 0, listed, a, w => Region.ready md ops listed = [] ∧ Q .normal a w
  | n + 1, listed, a, w => (Region.ready md ops listed = [] → Q .normal a w) ∧ ∀ i ∈ Region.ready md ops listed, wpOp Pg ops Q i (fun a' w' => (i ≠ L → S w') ∧ wpTill Pg md ops Q S L n (listed.setIfInBounds i true) a' w') a w

section
variable {Pg : Program} {ops : Array Oper} {Q : Exit → Act → World → Prop} {md : Region.Mode} {S : World → Prop} {L : Nat}

theorem wpTill_any : ∀ (n : Nat) (listed : Array Bool) (a : Act) (w : World), wpTill Pg md ops Q S L n listed a w → wpAny Pg md ops Q n listed a w
  | 0, _, _, _, h => h
  | n + 1, _, _, _, h => ⟨h.1, fun i hi => wpOp_mono (fun a' w' h' => wpTill_any n _ a' w' h'.2) (h.2 i hi)⟩

theorem wpTill_done {listed : Array Bool} {a : Act} {w : World} (hr : Region.ready md ops listed = []) (h : Q .normal a w) : ∀ n, wpTill Pg md ops Q S L n listed a w
  | 0 => ⟨hr, h⟩
  | _ + 1 => ⟨fun _ => h, by rw [hr]; simp⟩

theorem wpTill_start {id : Nat} {a : Act} {w : World} (hm : Pg.follows .mixedOrders = true) (hS : S w.drew)
    (h : S w.drew → wpTill Pg .any ops Q S L ops.size (Array.replicate ops.size false) a w.drew) : (Code.region id ops true).wp Pg Q a w :=
  wp_region_any hm (wpTill_any _ _ _ _ (h hS))

/-- does j wait for i, at n removes? -/
def reaches (md : Region.Mode) (ops : Array Oper) : Nat → Nat → Nat → Bool
  | 0, _, _ => false
  | n + 1, j, i => match ops[j]? with
    | some o => o.after.any fun e => Region.binds md e && (e.on == i || reaches md ops n e.on i)
    | none => false

/-- what has come up has all that it waits for behind it -/
def Closed (md : Region.Mode) (ops : Array Oper) (listed : Array Bool) : Prop := ∀ j o, ops[j]? = some o → listed.getD j false = true → ∀ e ∈ o.after, Region.binds md e = true → listed.getD e.on false = true

def closedB (md : Region.Mode) (ops : Array Oper) (listed : Array Bool) : Bool := (List.range ops.size).all fun j => !listed.getD j false || match ops[j]? with
  | some o => o.after.all fun e => !Region.binds md e || listed.getD e.on false
  | none => true

theorem closed_of {listed : Array Bool} (h : closedB md ops listed = true) : Closed md ops listed := by
  intro j o ho hj e he hb
  unfold closedB at h
  rw [List.all_eq_true] at h
  have h1 := h j (List.mem_range.2 (Array.getElem?_eq_some_iff.1 ho).1)
  rw [ho, hj] at h1
  simp only [Bool.not_true, Bool.false_or, Array.all_eq_true_iff_forall_mem] at h1
  have h2 := h1 e he
  rw [hb] at h2
  simpa using h2

theorem Closed.set {listed : Array Bool} (h : Closed md ops listed) {i : Nat} (hi : i ∈ Region.ready md ops listed) : Closed md ops (listed.setIfInBounds i true) := by
  intro j o ho hj e he hb
  by_cases hji : i = j
  · subst hji
    obtain ⟨_, o', ho', hall⟩ := mem_ready.1 hi
    rw [ho] at ho'
    cases ho'
    exact getD_set_true (hall e he hb)
  · rw [getD_set_ne false hji] at hj
    exact getD_set_true (h j o ho hj e he hb)

theorem Closed.reach {listed : Array Bool} (h : Closed md ops listed) : ∀ (n j i : Nat), (∀ o, ops[j]? = some o → ∀ e ∈ o.after, Region.binds md e = true → listed.getD e.on false = true) → reaches md ops n j i = true → listed.getD i false = true
  | 0, _, _, _, hr => by simp [reaches] at hr
  | n + 1, j, i, hd, hr => by
    unfold reaches at hr
    split at hr
    · rename_i o ho
      simp only [Array.any_eq_true, Bool.and_eq_true, Bool.or_eq_true, beq_iff_eq] at hr
      obtain ⟨k, hk, hb, he⟩ := hr
      have h1 := hd o ho _ (Array.getElem_mem hk) hb
      rcases he with he | he
      · rw [← he]; exact h1
      · exact h.reach n _ i (fun o' ho' e' he' hb' => h _ o' ho' h1 e' he' hb') he
    · cases hr

theorem waits {n i : Nat} {listed : Array Bool} (hc : Closed md ops listed) (hw : reaches md ops n L i = true) (hi : listed.getD i true = false) (hL : L ∈ Region.ready md ops listed) : False := by
  obtain ⟨_, o, ho, hall⟩ := mem_ready.1 hL
  have h1 := hc.reach n L i (fun o' ho' e he hb => by rw [ho] at ho'; cases ho'; exact hall e he hb) hw
  rcases Nat.lt_or_ge i listed.size with h' | h'
  · simp [h'] at hi h1; rw [hi] at h1; cases h1
  · simp [Array.getElem?_eq_none h'] at h1

theorem wpTill_first {i : Nat} {oi : Oper} {v : Value} (hi : ops[i]? = some oi) (hsel : ∀ (j : Nat) (o : Oper) cs b, ops[j]? = some o → o.op ≠ .select cs b)
    (hQ : ∀ c a w, Q (.panic c) (a.put oi.dst v) w → Q (.panic c) a w) {m : Nat} (hw : reaches md ops m L i = true) :
    ∀ (n : Nat) (listed : Array Bool) (a : Act) (w : World), Closed md ops listed →
      (∀ j oj, ops[j]? = some oj → j ≠ i → listed.getD j true = false → (∀ e ∈ oj.after, Region.binds md e = true → e.on ≠ i) → oi.apart ops oj = true) →
      i ∈ Region.ready md ops listed → YieldsIf Pg ops S oi v a → S w →
      wpTill Pg md ops Q S L n (listed.setIfInBounds i true) (a.put oi.dst v) w → wpTill Pg md ops Q S L (n + 1) listed a w := by
  intro n
  induction n with
  | zero =>
    intro listed a w _ _ hr hy hS H
    refine ⟨fun h => (by rw [h] at hr; cases hr), fun j hj => ?_⟩
    by_cases hji : j = i
    · subst hji; exact hy.wpOp hi hS ⟨fun _ => hS, H⟩
    · have := ready_mono hj hji
      rw [H.1] at this
      cases this
  | succ n ih =>
    intro listed a w hcl hfree hr hy hS H
    refine ⟨fun h => (by rw [h] at hr; cases hr), fun j hj => ?_⟩
    by_cases hji : j = i
    · subst hji; exact hy.wpOp hi hS ⟨fun _ => hS, H⟩
    · have hi0 := (mem_ready.1 hr).1
      have hjL : j ≠ L := fun e => by subst e; exact waits hcl hw hi0 hj
      obtain ⟨hjun, oj, hoj, hall⟩ := mem_ready.1 hj
      have hnot : ∀ e ∈ oj.after, Region.binds md e = true → e.on ≠ i := fun e he hb heq => by
        have h1 := hall e he hb
        rw [heq] at h1
        rcases Nat.lt_or_ge i listed.size with h' | h'
        · simp [h'] at hi0 h1; rw [hi0] at h1; cases h1
        · simp [Array.getElem?_eq_none h'] at h1
      have h2 := wpOp_putIf hoj (hfree j oj hoj hji hjun hnot) (fun cs b => hsel i oi cs b hi) (fun cs b => hsel j oj cs b hoj) hQ hy (H.2 j (ready_mono hj hji))
      refine wpOp_mono (fun a' w' h3 => ⟨h3.2.1, ih (listed.setIfInBounds j true) a' w' (hcl.set hj) (fun k ok hk hki hun hno => ?_) (ready_mono hr (Ne.symm hji)) h3.1 (h3.2.1 hjL) ?_⟩) h2
      · refine hfree k ok hk hki ?_ hno
        by_cases hjk : j = k
        · subst hjk; exact hjun
        · rw [getD_set_ne true hjk] at hun; exact hun
      · rw [Array.setIfInBounds_comm _ _ hji]
        exact h3.2.2

theorem wpTill_take {i : Nat} {oi : Oper} {v : Value} {n : Nat} {listed : Array Bool} {a : Act} {w : World} (hi : ops[i]? = some oi)
    (hs : Region.noSelect ops = true) (hf : Region.free md ops listed i = true) (hr : (Region.ready md ops listed).contains i = true) (hc : closedB md ops listed = true) (hw : reaches md ops 12 L i = true)
    (hQ : ∀ c a w, Q (.panic c) (a.put oi.dst v) w → Q (.panic c) a w) (hy : YieldsIf Pg ops S oi v a) (hS : S w)
    (h : wpTill Pg md ops Q S L n (listed.setIfInBounds i true) (a.put oi.dst v) w) : wpTill Pg md ops Q S L (n + 1) listed a w :=
  wpTill_first hi (Region.noSelect_spec hs) hQ hw n listed a w (closed_of hc) (Region.free_spec hi hf) (by simpa using hr) hy hS h

/-- those that may come up next -/
def AllTill (Pg : Program) (md : Region.Mode) (ops : Array Oper) (Q : Exit → Act → World → Prop) (S : World → Prop) (L n : Nat) (listed : Array Bool) (a : Act) (w : World) (rs : List Nat) : Prop :=
  ∀ i ∈ rs, wpOp Pg ops Q i (fun a' w' => (i ≠ L → S w') ∧ wpTill Pg md ops Q S L n (listed.setIfInBounds i true) a' w') a w

theorem AllTill.nil {n : Nat} {listed : Array Bool} {a : Act} {w : World} : AllTill Pg md ops Q S L n listed a w [] := fun _ h => by cases h

theorem AllTill.cons {n : Nat} {listed : Array Bool} {a : Act} {w : World} {i : Nat} {o : Oper} {rs : List Nat} (ho : ops[i]? = some o)
    (h : ∀ K' : Act → World → Prop, Shut (∀ a w, (i ≠ L → S w) → ((i ≠ L → S w) → wpTill Pg md ops Q S L n (listed.setIfInBounds i true) a w) → K' a w) → if Region.wanted o (yielded ops a.tmps) = true then Oper.wp Pg o a w K' Q else K' (a.put o.dst undef) w)
    (hs : AllTill Pg md ops Q S L n listed a w rs) : AllTill Pg md ops Q S L n listed a w (i :: rs) := fun j hj => by
  rcases List.mem_cons.1 hj with rfl | hj
  · exact wpOp_step ho (fun K' hK => h K' (fun a w hS hW => hK a w ⟨hS, hW hS⟩))
  · exact hs j hj

theorem wpTill_ready {rs : List Nat} {n : Nat} {listed : Array Bool} {a : Act} {w : World} (hr : Region.ready md ops listed = rs) (hne : rs ≠ [])
    (h : AllTill Pg md ops Q S L n listed a w rs) : wpTill Pg md ops Q S L (n + 1) listed a w :=
  ⟨fun h0 => absurd (hr ▸ h0) hne, hr ▸ h⟩

end

end Go.Proofs.YtpdmbmfjeankbaaGreatDoor

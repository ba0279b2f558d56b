/- Merged: Col, Ann. -/
import Derived.Test.YtdlfofdibooidaaGreatLb4
import Derived.Test.YtdlfofdibooidaaGreatLb7
import Derived.Test.YtdlfofdibooidaaGreatLb8
import Derived.Deep.RegionHeld3

/- Columns: their plain facts, and the model's functions. | Columns: the model's C, N and M. -/
namespace Go.Proofs.YtdlfofdibooidaaGreat
open Go.ChangeShapes Go.WideShapes Go.ChangeAt Go.RowKit
set_option linter.unusedVariables false
set_option maxRecDepth 100000

/-- the sum of n values of F, from k on -/
def fsum (F : Nat → Int) (k : Nat) : Nat → Int
  | 0 => 0
  | n + 1 => fsum F k n + F (k + n)

theorem fsum_head (F : Nat → Int) (k n : Nat) : fsum F k (n + 1) = F k + fsum F (k + 1) n := by
  induction n with
  | zero => simp [fsum]
  | succ n ih => rw [fsum, ih, fsum, show k + 1 + n = k + (n + 1) by omega]; omega

theorem fsum_bd (F : Nat → Int) (h : ∀ j, 0 ≤ F j ∧ F j ≤ 1000000000000000) (k n : Nat) : 0 ≤ fsum F k n ∧ fsum F k n ≤ n * 1000000000000000 := by
  induction n with
  | zero => simp [fsum]
  | succ n ih =>
    have := h (k + n)
    rw [fsum]
    omega

theorem fsum_more (F : Nat → Int) (L k n : Nat) (h : ∀ j, L ≤ j → F j = 0) (hn : L ≤ k + n) (d : Nat) : fsum F k (n + d) = fsum F k n := by
  induction d with
  | zero => rfl
  | succ d ih => rw [show n + (d + 1) = (n + d) + 1 by omega, fsum, ih, h _ (by omega)]; omega

theorem fsum_far (F : Nat → Int) (L k n m : Nat) (h : ∀ j, L ≤ j → F j = 0) (hn : L ≤ k + n) (hm : L ≤ k + m) : fsum F k n = fsum F k m := by
  by_cases hl : n ≤ m
  · obtain ⟨d, rfl⟩ : ∃ d, m = n + d := ⟨m - n, by omega⟩
    exact (fsum_more F L k n h hn d).symm
  · obtain ⟨d, rfl⟩ : ∃ d, n = m + d := ⟨n - m, by omega⟩
    exact fsum_more F L k m h hm d

/-- the columns, k years after the first age -/
def cD (r : Int) (xs : List Int) (k : Nat) : Int := xs.getD k 0 * disc r k
def cC (r : Int) (xs : List Int) (k : Nat) : Int := (xs.getD k 0 - xs.getD (k + 1) 0) * disc r (k + 1)
def cN (r : Int) (xs : List Int) (k : Nat) : Int := fsum (cD r xs) k 152
def cM (r : Int) (xs : List Int) (k : Nat) : Int := fsum (cC r xs) k 152

theorem prod_bd (u d : Int) (u0 : 0 ≤ u) (u1 : u ≤ 1000000) (d0 : 0 ≤ d) (d1 : d ≤ 1000000000) : 0 ≤ u * d ∧ u * d ≤ 1000000000000000 := by
  have a := Int.mul_le_mul u1 d1 d0 (by omega)
  have b := Int.mul_nonneg u0 d0
  omega

theorem LTab.cD_bd {f : Int} {xs : List Int} (h : LTab f xs) (r : Int) (r0 : 0 ≤ r) (k : Nat) : 0 ≤ cD r xs k ∧ cD r xs k ≤ 1000000000000000 := by
  obtain ⟨d0, d1⟩ := disc_bd r r0 k
  exact prod_bd _ _ (h.nonneg k) (h.le k) d0 d1

theorem LTab.cC_bd {f : Int} {xs : List Int} (h : LTab f xs) (r : Int) (r0 : 0 ≤ r) (k : Nat) : 0 ≤ cC r xs k ∧ cC r xs k ≤ 1000000000000000 := by
  obtain ⟨d0, d1⟩ := disc_bd r r0 (k + 1)
  have a := h.step k
  have b := h.le k
  have c := h.nonneg (k + 1)
  exact prod_bd _ _ (by omega) (by omega) d0 d1

theorem LTab.cD_far {f : Int} {xs : List Int} (h : LTab f xs) (r : Int) (k : Nat) (hk : xs.length - 1 ≤ k) : cD r xs k = 0 := by
  unfold cD; rw [h.last k (by omega)]; simp

theorem LTab.cC_far {f : Int} {xs : List Int} (h : LTab f xs) (r : Int) (k : Nat) (hk : xs.length - 1 ≤ k) : cC r xs k = 0 := by
  unfold cC; rw [h.last k (by omega), h.last (k + 1) (by omega)]; simp

theorem LTab.short {f : Int} {xs : List Int} (h : LTab f xs) : xs.length - 1 ≤ 119 := by have := h.2.1; omega

theorem LTab.cN_step {f : Int} {xs : List Int} (h : LTab f xs) (r : Int) (k : Nat) : cN r xs k = cN r xs (k + 1) + cD r xs k := by
  have hs := h.short
  unfold cN
  rw [fsum_far (cD r xs) (xs.length - 1) k 152 153 (h.cD_far r) (by omega) (by omega), fsum_head]
  omega

theorem LTab.cM_step {f : Int} {xs : List Int} (h : LTab f xs) (r : Int) (k : Nat) : cM r xs k = cM r xs (k + 1) + cC r xs k := by
  have hs := h.short
  unfold cM
  rw [fsum_far (cC r xs) (xs.length - 1) k 152 153 (h.cC_far r) (by omega) (by omega), fsum_head]
  omega

theorem LTab.cN_bd {f : Int} {xs : List Int} (h : LTab f xs) (r : Int) (r0 : 0 ≤ r) (k : Nat) : 0 ≤ cN r xs k ∧ cN r xs k ≤ 152000000000000000 := by
  have := fsum_bd (cD r xs) (h.cD_bd r r0) k 152
  unfold cN; omega

theorem LTab.cM_bd {f : Int} {xs : List Int} (h : LTab f xs) (r : Int) (r0 : 0 ≤ r) (k : Nat) : 0 ≤ cM r xs k ∧ cM r xs k ≤ 152000000000000000 := by
  have := fsum_bd (cC r xs) (h.cC_bd r r0) k 152
  unfold cM; omega

theorem LTab.cN_far {f : Int} {xs : List Int} (h : LTab f xs) (r : Int) (k : Nat) (hk : xs.length - 1 ≤ k) : cN r xs k = 0 := by
  unfold cN; rw [fsum_far (cD r xs) (xs.length - 1) k 152 0 (h.cD_far r) (by omega) (by omega)]; rfl

theorem LTab.cM_far {f : Int} {xs : List Int} (h : LTab f xs) (r : Int) (k : Nat) (hk : xs.length - 1 ≤ k) : cM r xs k = 0 := by
  unfold cM; rw [fsum_far (cC r xs) (xs.length - 1) k 152 0 (h.cC_far r) (by omega) (by omega)]; rfl

/-- a sum that ends with the table -/
theorem LTab.cN_end {f : Int} {xs : List Int} (h : LTab f xs) (r : Int) (k n : Nat) (hn : xs.length - 1 ≤ k + n) : cN r xs k = fsum (cD r xs) k n :=
  fsum_far _ (xs.length - 1) _ _ _ (h.cD_far r) (by have := h.short; omega) hn

theorem LTab.cM_end {f : Int} {xs : List Int} (h : LTab f xs) (r : Int) (k n : Nat) (hn : xs.length - 1 ≤ k + n) : cM r xs k = fsum (cC r xs) k n :=
  fsum_far _ (xs.length - 1) _ _ _ (h.cC_far r) (by have := h.short; omega) hn

theorem sdisc_at (r n : Int) (k : Nat) (w : World) (hn : n = (k : Int)) (h0 : 0 ≤ r) (h1 : r ≤ 200) (hk : k ≤ 1000) :
    Calls Tryz.prog 72 #[.int .i64 r, .int .i64 n] w fun e w' => e = .returned (.int .i64 (disc r k)) ∧ w = w' := by
  subst hn; exact sdisc_any r k w h0 h1 hk

/-- the code of a table, a rate and an age -/
def coE (r f : Int) (xs : List Int) (x : Int) : Int := if ltB f xs = true then (if (rateB r && inB x f 150) = true then 0 else 2) else 1

theorem coE_iff {r f : Int} {xs : List Int} {x : Int} : coE r f xs x = 0 ↔ LTab f xs ∧ (0 ≤ r ∧ r ≤ 200) ∧ f ≤ x ∧ x ≤ 150 := by
  unfold coE rateB; rw [← ltB_iff, ← inB_iff, ← inB_iff]
  cases ltB f xs <;> cases inB r 0 200 <;> cases inB x f 150 <;> simp

set_option maxHeartbeats 400000 in
theorem scode_any (r f : Int) (xs : List Int) (a : Option Addr) (l c : Nat) (x : Int) (w : World) (h : Ints w a l xs) :
    Calls Tryz.prog 130 #[.agg #[.int .i64 f, .slice a l c], .int .i64 r, .int .i64 x] w fun e w' => e = .returned (.int .i64 (coE r f xs x)) ∧ Below w.heap.size w w' := by
  have H := Lib.hid h
  clear h
  by_cases h1 : ltB f xs = true
  · by_cases h2 : rateB r = true
    · by_cases h3 : inB x f 150 = true
      · have HR : Hid (coE r f xs x = 0) := Lib.hid (by simp [coE, h1, h2, h3])
        go_enter Tryz.func130, Tryz.ntmps130
        go_wp2_with (first | (go_at_call 82; refine (in_any _ _ _ _).mono ?_; rintro e w' ⟨rfl, rfl⟩) | (go_at_call 113; refine (sRate_any _ _).mono ?_; rintro e w' ⟨rfl, rfl⟩) | (go_at_call 112; refine (isL_spec f xs _ _ _ _ (H.out.on (box_b _ _))).mono ?_; rintro e w1 ⟨rfl, hb⟩; obtain ⟨hB, hc0, hc1⟩ := box2 hb; have HB := Lib.hid hB; clear hB hb))
        go_ret
        exact ⟨ret_int HR.out.symm, HB.out⟩
      · have HR : Hid (coE r f xs x = 2) := Lib.hid (by simp [coE, h1, h2, h3])
        go_enter Tryz.func130, Tryz.ntmps130
        go_wp2_with (first | (go_at_call 82; refine (in_any _ _ _ _).mono ?_; rintro e w' ⟨rfl, rfl⟩) | (go_at_call 113; refine (sRate_any _ _).mono ?_; rintro e w' ⟨rfl, rfl⟩) | (go_at_call 112; refine (isL_spec f xs _ _ _ _ (H.out.on (box_b _ _))).mono ?_; rintro e w1 ⟨rfl, hb⟩; obtain ⟨hB, hc0, hc1⟩ := box2 hb; have HB := Lib.hid hB; clear hB hb))
        go_ret
        exact ⟨ret_int HR.out.symm, HB.out⟩
    · have HR : Hid (coE r f xs x = 2) := Lib.hid (by simp [coE, h1, h2])
      go_enter Tryz.func130, Tryz.ntmps130
      go_wp2_with (first | (go_at_call 82; refine (in_any _ _ _ _).mono ?_; rintro e w' ⟨rfl, rfl⟩) | (go_at_call 113; refine (sRate_any _ _).mono ?_; rintro e w' ⟨rfl, rfl⟩) | (go_at_call 112; refine (isL_spec f xs _ _ _ _ (H.out.on (box_b _ _))).mono ?_; rintro e w1 ⟨rfl, hb⟩; obtain ⟨hB, hc0, hc1⟩ := box2 hb; have HB := Lib.hid hB; clear hB hb))
      go_ret
      exact ⟨ret_int HR.out.symm, HB.out⟩
  · have h1' : ltB f xs = false := by simpa using h1
    have HR : Hid (coE r f xs x = 1) := Lib.hid (by simp [coE, h1'])
    clear h1
    go_enter Tryz.func130, Tryz.ntmps130
    go_wp2_with (go_at_call 112; refine (isL_spec f xs _ _ _ _ (H.out.on (box_b _ _))).mono ?_; rintro e w1 ⟨rfl, hb⟩; obtain ⟨hB, hc0, hc1⟩ := box2 hb; have HB := Lib.hid hB; clear hB hb)
    go_ret
    exact ⟨ret_int HR.out.symm, HB.out⟩

set_option maxHeartbeats 400000 in
theorem sD_any (r f : Int) (xs : List Int) (a : Option Addr) (l c : Nat) (x : Int) (w : World) (h : Ints w a l xs) (ht : LTab f xs) (r0 : 0 ≤ r) (r1 : r ≤ 200) (x0 : f ≤ x) (x1 : x ≤ 151) :
    Calls Tryz.prog 43 #[.agg #[.int .i64 f, .slice a l c], .int .i64 r, .int .i64 x] w fun e w' => e = .returned (.int .i64 (cD r xs (x - f).toNat)) ∧ Below w.heap.size w w' := by
  have H := Lib.hid h
  have HT := Lib.hid ht
  obtain ⟨f0, f1⟩ := ht.1
  obtain ⟨u, hu⟩ : ∃ u, lvs f xs x = u := ⟨_, rfl⟩
  have hub := ht.lvs_bd x
  rw [hu] at hub
  obtain ⟨u0, u1⟩ := hub
  obtain ⟨k, hk⟩ : ∃ k, (x - f).toNat = k := ⟨_, rfl⟩
  have hkx : f + (k : Int) = x := by omega
  obtain ⟨d0, d1⟩ := disc_bd r r0 k
  have HU := Lib.hid hu
  have HD : Hid (cD r xs k = u * disc r k) := Lib.hid (by rw [← hu, ← hk]; rfl)
  rw [hk]
  clear h ht hu
  by_cases hk2 : (120 : Int) < x - f
  · have HZ : Hid (cD r xs k = 0) := Lib.hid (HT.out.cD_far r k (by have := HT.out.short; omega))
    go_enter Tryz.func43, Tryz.ntmps43
    go_wp2_with fail
    go_ret
    exact ⟨ret_int HZ.out.symm, box_b _ _⟩
  · have C1 : Hid (∀ W, Hid (Below w.heap.size w W) → Calls Tryz.prog 71 #[.agg #[.int .i64 f, .slice a l c], .int .i64 x] W fun e w' => e = .returned (.int .i64 u) ∧ Below W.heap.size W w') :=
      Lib.hid (fun W hW => by have := lives_any f xs a l c x W (H.out.on hW.out) f0 f1 x0 (by omega); rw [HU.out] at this; exact this)
    by_cases hz : u = 0
    · have HZ : Hid (cD r xs k = 0) := Lib.hid (by rw [HD.out, hz]; simp)
      have hz2 : (u == 0) = true := by simp [hz]
      clear hz
      go_enter Tryz.func43, Tryz.ntmps43
      go_wp2_with fail
      with_reducible refine (C1.out _ (Lib.hid (box_b _ _))).mono ?_
      rintro e w1 ⟨rfl, hb⟩
      obtain ⟨hB, hc0, hc1⟩ := box2 hb
      have HB := Lib.hid hB
      clear hb hB
      go_wp2_with fail
      go_ret
      exact ⟨ret_int HZ.out.symm, HB.out⟩
    · have hz2 : (u == 0) = false := by simp [hz]
      have hp := prod_bd u (disc r k) u0 u1 d0 d1
      obtain ⟨d, hd⟩ : ∃ d, disc r k = d := ⟨_, rfl⟩
      rw [hd] at d0 d1 hp
      obtain ⟨p0, p1⟩ := hp
      have HDD := Lib.hid hd
      clear hz hd
      go_enter Tryz.func43, Tryz.ntmps43
      go_wp2_with fail
      with_reducible refine (C1.out _ (Lib.hid (box_b _ _))).mono ?_
      rintro e w1 ⟨rfl, hb⟩
      obtain ⟨hB, hc0, hc1⟩ := box2 hb
      have HB := Lib.hid hB
      clear hb hB
      go_wp2_with fail
      with_reducible refine (C1.out _ HB).mono ?_
      rintro e w2 ⟨rfl, hb⟩
      have hd0 := keep2 hb hc0
      have hd1 := keep2 hb hc1
      have HB2 := Lib.hid (HB.out.trans (hb.mono HB.out.size))
      clear hb hc0 hc1 HB
      go_wp2_with fail
      with_reducible refine (sdisc_at r _ k _ (by omega) r0 r1 (by omega)).mono ?_
      rintro e w3 ⟨rfl, rfl⟩
      rw [HDD.out]
      go_wp2_with fail
      go_ret
      exact ⟨ret_int (by rw [HD.out, HDD.out]), HB2.out⟩

set_option maxHeartbeats 800000 in
theorem sC_any (r f : Int) (xs : List Int) (a : Option Addr) (l c : Nat) (x : Int) (w : World) (h : Ints w a l xs) (ht : LTab f xs) (r0 : 0 ≤ r) (r1 : r ≤ 200) (x0 : f ≤ x) (x1 : x ≤ 151) :
    Calls Tryz.prog 109 #[.agg #[.int .i64 f, .slice a l c], .int .i64 r, .int .i64 x] w fun e w' => e = .returned (.int .i64 (cC r xs (x - f).toNat)) ∧ Below w.heap.size w w' := by
  have H := Lib.hid h
  have HT := Lib.hid ht
  obtain ⟨f0, f1⟩ := ht.1
  obtain ⟨u, hu⟩ : ∃ u, lvs f xs x = u := ⟨_, rfl⟩
  obtain ⟨v, hv⟩ : ∃ v, lvs f xs (x + 1) = v := ⟨_, rfl⟩
  have hub := ht.lvs_bd x
  have hvb := ht.lvs_bd (x + 1)
  have hvu := ht.lvs_mono x (x + 1) (by omega)
  rw [hu] at hub hvu
  rw [hv] at hvb hvu
  obtain ⟨u0, u1⟩ := hub
  obtain ⟨v0, v1⟩ := hvb
  obtain ⟨k, hk⟩ : ∃ k, (x - f).toNat = k := ⟨_, rfl⟩
  have hkx : f + (k : Int) = x := by omega
  obtain ⟨d0, d1⟩ := disc_bd r r0 (k + 1)
  have HU := Lib.hid hu
  have HV := Lib.hid hv
  have HD : Hid (cC r xs k = (u - v) * disc r (k + 1)) := Lib.hid (by
    rw [← hu, ← hv, ← hk]; unfold cC lvs; rw [show (x + 1 - f).toNat = (x - f).toNat + 1 by omega])
  rw [hk]
  clear h ht hu hv
  have C1 : Hid (∀ W, Hid (Below w.heap.size w W) → Calls Tryz.prog 71 #[.agg #[.int .i64 f, .slice a l c], .int .i64 x] W fun e w' => e = .returned (.int .i64 u) ∧ Below W.heap.size W w') :=
    Lib.hid (fun W hW => by have := lives_any f xs a l c x W (H.out.on hW.out) f0 f1 x0 (by omega); rw [HU.out] at this; exact this)
  have C2 : Hid (∀ W, Hid (Below w.heap.size w W) → Calls Tryz.prog 71 #[.agg #[.int .i64 f, .slice a l c], .int .i64 (x + 1)] W fun e w' => e = .returned (.int .i64 v) ∧ Below W.heap.size W w') :=
    Lib.hid (fun W hW => by have := lives_any f xs a l c (x + 1) W (H.out.on hW.out) f0 f1 (by omega) (by omega); rw [HV.out] at this; exact this)
  have q1 : IntKind.i64.wrap (x + 1) = x + 1 := IntWalk.i64_in _ (by omega)
  have q2 : IntKind.i64.wrap (u - v) = u - v := IntWalk.i64_in _ (by omega)
  have hp := prod_bd (u - v) (disc r (k + 1)) (by omega) (by omega) d0 d1
  obtain ⟨d, hd⟩ : ∃ d, disc r (k + 1) = d := ⟨_, rfl⟩
  rw [hd] at d0 d1 hp
  obtain ⟨p0, p1⟩ := hp
  have HDD := Lib.hid hd
  have HPQ := Lib.hid (show 0 ≤ (u - v) * d ∧ (u - v) * d ≤ 1000000000000000 from ⟨p0, p1⟩)
  clear hd p0 p1
  go_enter Tryz.func109, Tryz.ntmps109
  go_wp2_with fail
  go_region_held3 (fun w' => w'.cell? ⟨w.heap.size, 0, none⟩ = some (.int .i64 f) ∧ w'.cell? ⟨w.heap.size, 1, none⟩ = some (.slice a l c) ∧ Hid (Below w.heap.size w w'))
    (first
      | (go_split_ands; exact ⟨by go_simp, by go_simp, Lib.hid (Below.drew (box_b _ _))⟩)
      | (go_split_ands; exact ⟨by go_simp, by go_simp, Lib.hid (box_b _ _)⟩)
      | (go_split_ands; exact ⟨by assumption, by assumption, by assumption⟩)
      | (go_split_ands; exact ⟨by assumption, by assumption, Lib.hid (Below.drew (Hid.out (by assumption)))⟩)
      | (go_split_ands; exact ⟨keep2 hb (by assumption), keep2 hb (by assumption), Lib.hid (Below.trans (Hid.out (by assumption)) (Below.mono hb (Below.size (Hid.out (by assumption)))))⟩))
    (first
      | (go_split_ands; go_at_call 71; ((with_reducible refine (C1.out _ (by assumption)).mono ?_); rintro e w' ⟨rfl, hb⟩))
      | (go_split_ands; go_at_call 71; ((with_reducible refine (C2.out _ (by assumption)).mono ?_); rintro e w' ⟨rfl, hb⟩)))
  all_goals
    go_split_ands
    obtain ⟨p0, p1⟩ := HPQ.out
    by_cases hk2 : (120 : Int) < x - f + 1
    · have HZ : Hid (cC r xs k = 0) := Lib.hid (HT.out.cC_far r k (by have := HT.out.short; omega))
      go_wp2_with fail
      go_ret
      exact ⟨ret_int HZ.out.symm, Hid.out (by assumption)⟩
    · by_cases hz : u - v = 0
      · have HZ : Hid (cC r xs k = 0) := Lib.hid (by rw [HD.out, hz]; simp)
        have hz2 : (u - v == 0) = true := by simp [hz]
        clear hz
        go_wp2_with fail
        go_ret
        exact ⟨ret_int HZ.out.symm, Hid.out (by assumption)⟩
      · have hz2 : (u - v == 0) = false := by simp [hz]
        clear hz
        go_wp2_with fail
        with_reducible refine (sdisc_at r _ (k + 1) _ (by omega) r0 r1 (by omega)).mono ?_
        rintro e w3 ⟨rfl, rfl⟩
        rw [HDD.out]
        go_wp2_with fail
        go_ret
        exact ⟨ret_int (by rw [HD.out, HDD.out]), Hid.out (by assumption)⟩

theorem fsum_step (F : Nat → Int) (h : ∀ j, 0 ≤ F j ∧ F j ≤ 1000000000000000) (k n : Nat) (hn : n ≤ 1000) : ∃ s d : Int, fsum F k n = s ∧ F (k + n) = d ∧ fsum F k (n + 1) = s + d ∧ 0 ≤ s ∧ s ≤ 1000000000000000000 ∧ 0 ≤ d ∧ d ≤ 1000000000000000 := by
  obtain ⟨h1, h2⟩ := h (k + n)
  obtain ⟨h3, h4⟩ := fsum_bd F h k n
  exact ⟨_, _, rfl, rfl, rfl, h3, by omega, h1, h2⟩

set_option maxHeartbeats 400000 in
theorem sN_any (r f : Int) (xs : List Int) (a : Option Addr) (l c : Nat) (x : Int) (w : World) (h : Ints w a l xs) (ht : LTab f xs) (r0 : 0 ≤ r) (r1 : r ≤ 200) (x0 : f ≤ x) (x1 : x ≤ 151) :
    Calls Tryz.prog 102 #[.agg #[.int .i64 f, .slice a l c], .int .i64 r, .int .i64 x] w fun e w' => e = .returned (.int .i64 (cN r xs (x - f).toNat)) ∧ Below w.heap.size w w' := by
  have hl := h.len
  have H := Lib.hid h
  have HT := Lib.hid ht
  obtain ⟨f0, f1⟩ := ht.1
  obtain ⟨l0, l1⟩ := ht.2.1
  have hlf := ht.2.2.1
  rw [hl] at l0 l1 hlf
  obtain ⟨k, hk⟩ : ∃ k, (x - f).toNat = k := ⟨_, rfl⟩
  have hkx : f + (k : Int) = x := by omega
  have HL := Lib.hid hl
  rw [hk]
  clear h ht hl
  go_enter Tryz.func102, Tryz.ntmps102
  go_wp2_with fail
  go_loopw [7, 8] (fun v i wr => ∃ j : Nat, j ≤ l ∧ (j = 0 ∨ (k : Int) + j ≤ l - 1) ∧ i = .int .i64 (x + j) ∧ v = .int .i64 (fsum (cD r xs) k j) ∧ wr.cell? ⟨w.heap.size, 0, none⟩ = some (.int .i64 f) ∧ wr.cell? ⟨w.heap.size, 1, none⟩ = some (.slice a l c) ∧ Hid (Below w.heap.size w wr)) (fun _ i _ => (f + l - intOf i).toNat)
  case atStart => exact ⟨0, by omega, .inl rfl, by go_num, rfl, by go_simp, by go_simp, Lib.hid (box_b _ _)⟩
  case round =>
    obtain ⟨j, hj, hjl, rfl, rfl, hc0, hc1, HB⟩ := hrel
    by_cases hlt : x + (j : Int) < f + l - 1
    · go_wp2_with fail
      with_reducible refine (end_spec f xs _ _ _ _ (by omega) f0 (by omega)).mono ?_
      rintro e w1 ⟨rfl, hb⟩
      have hd0 := keep2 hb hc0
      have hd1 := keep2 hb hc1
      have HB1 := Lib.hid (HB.out.trans (hb.mono HB.out.size))
      clear hb hc0 hc1 HB
      go_wp2_with fail
      with_reducible refine (sD_any r f xs _ _ _ _ _ (H.out.on HB1.out) HT.out r0 r1 (by omega) (by omega)).mono ?_
      rintro e w2 ⟨rfl, hb⟩
      have hc0 := keep2 hb hd0
      have hc1 := keep2 hb hd1
      have HB2 := Lib.hid (HB1.out.trans (hb.mono HB1.out.size))
      clear hb hd0 hd1 HB1
      have e1 : (x + (j : Int) - f).toNat = k + j := by omega
      rw [e1]
      obtain ⟨s, d, hs, hd, he, b1, b2, b3, b4⟩ := fsum_step (cD r xs) (HT.out.cD_bd r r0) k j (by omega)
      rw [hs, hd]
      have HE := Lib.hid he
      clear hs he hd e1
      go_wp2_with fail
      go_roundw
      case rel => exact ⟨j + 1, by omega, .inr (by omega), by go_num, by first | (rw [HE.out]; go_num) | (rw [HE.out]), hc0, hc1, HB2⟩
      case measure => simp [intOf]; omega
    · go_wp2_with fail
      with_reducible refine (end_spec f xs _ _ _ _ (by omega) f0 (by omega)).mono ?_
      rintro e w1 ⟨rfl, hb⟩
      have HB1 := Lib.hid (HB.out.trans (hb.mono HB.out.size))
      clear hb hc0 hc1 HB
      have HE : Hid (cN r xs k = fsum (cD r xs) k j) := Lib.hid (HT.out.cN_end r k j (by rw [HL.out]; omega))
      obtain ⟨s, hs⟩ : ∃ s, fsum (cD r xs) k j = s := ⟨_, rfl⟩
      rw [hs]
      have HS := Lib.hid hs
      clear hs
      go_wp2_with fail
      go_ret
      exact ⟨ret_int (by rw [HE.out, HS.out]), HB1.out⟩

set_option maxHeartbeats 400000 in
theorem sM_any (r f : Int) (xs : List Int) (a : Option Addr) (l c : Nat) (x : Int) (w : World) (h : Ints w a l xs) (ht : LTab f xs) (r0 : 0 ≤ r) (r1 : r ≤ 200) (x0 : f ≤ x) (x1 : x ≤ 151) :
    Calls Tryz.prog 74 #[.agg #[.int .i64 f, .slice a l c], .int .i64 r, .int .i64 x] w fun e w' => e = .returned (.int .i64 (cM r xs (x - f).toNat)) ∧ Below w.heap.size w w' := by
  have hl := h.len
  have H := Lib.hid h
  have HT := Lib.hid ht
  obtain ⟨f0, f1⟩ := ht.1
  obtain ⟨l0, l1⟩ := ht.2.1
  have hlf := ht.2.2.1
  rw [hl] at l0 l1 hlf
  obtain ⟨k, hk⟩ : ∃ k, (x - f).toNat = k := ⟨_, rfl⟩
  have hkx : f + (k : Int) = x := by omega
  have HL := Lib.hid hl
  rw [hk]
  clear h ht hl
  go_enter Tryz.func74, Tryz.ntmps74
  go_wp2_with fail
  go_loopw [7, 8] (fun v i wr => ∃ j : Nat, j ≤ l ∧ (j = 0 ∨ (k : Int) + j ≤ l - 1) ∧ i = .int .i64 (x + j) ∧ v = .int .i64 (fsum (cC r xs) k j) ∧ wr.cell? ⟨w.heap.size, 0, none⟩ = some (.int .i64 f) ∧ wr.cell? ⟨w.heap.size, 1, none⟩ = some (.slice a l c) ∧ Hid (Below w.heap.size w wr)) (fun _ i _ => (f + l - intOf i).toNat)
  case atStart => exact ⟨0, by omega, .inl rfl, by go_num, rfl, by go_simp, by go_simp, Lib.hid (box_b _ _)⟩
  case round =>
    obtain ⟨j, hj, hjl, rfl, rfl, hc0, hc1, HB⟩ := hrel
    by_cases hlt : x + (j : Int) < f + l - 1
    · go_wp2_with fail
      with_reducible refine (end_spec f xs _ _ _ _ (by omega) f0 (by omega)).mono ?_
      rintro e w1 ⟨rfl, hb⟩
      have hd0 := keep2 hb hc0
      have hd1 := keep2 hb hc1
      have HB1 := Lib.hid (HB.out.trans (hb.mono HB.out.size))
      clear hb hc0 hc1 HB
      go_wp2_with fail
      with_reducible refine (sC_any r f xs _ _ _ _ _ (H.out.on HB1.out) HT.out r0 r1 (by omega) (by omega)).mono ?_
      rintro e w2 ⟨rfl, hb⟩
      have hc0 := keep2 hb hd0
      have hc1 := keep2 hb hd1
      have HB2 := Lib.hid (HB1.out.trans (hb.mono HB1.out.size))
      clear hb hd0 hd1 HB1
      have e1 : (x + (j : Int) - f).toNat = k + j := by omega
      rw [e1]
      obtain ⟨s, d, hs, hd, he, b1, b2, b3, b4⟩ := fsum_step (cC r xs) (HT.out.cC_bd r r0) k j (by omega)
      rw [hs, hd]
      have HE := Lib.hid he
      clear hs he hd e1
      go_wp2_with fail
      go_roundw
      case rel => exact ⟨j + 1, by omega, .inr (by omega), by go_num, by first | (rw [HE.out]; go_num) | (rw [HE.out]), hc0, hc1, HB2⟩
      case measure => simp [intOf]; omega
    · go_wp2_with fail
      with_reducible refine (end_spec f xs _ _ _ _ (by omega) f0 (by omega)).mono ?_
      rintro e w1 ⟨rfl, hb⟩
      have HB1 := Lib.hid (HB.out.trans (hb.mono HB.out.size))
      clear hb hc0 hc1 HB
      have HE : Hid (cM r xs k = fsum (cC r xs) k j) := Lib.hid (HT.out.cM_end r k j (by rw [HL.out]; omega))
      obtain ⟨s, hs⟩ : ∃ s, fsum (cC r xs) k j = s := ⟨_, rfl⟩
      rw [hs]
      have HS := Lib.hid hs
      clear hs
      go_wp2_with fail
      go_ret
      exact ⟨ret_int (by rw [HE.out, HS.out]), HB1.out⟩

end Go.Proofs.YtdlfofdibooidaaGreat

/- Annuities: numbers, and the model's functions. | Annuities: the model's prices. (Written by wip/gen/annt.py.) -/
namespace Go.Proofs.YtdlfofdibooidaaGreat
open Go.ChangeShapes Go.WideShapes Go.ChangeAt Go.RowKit
set_option linter.unusedVariables false
set_option maxRecDepth 100000

/-- a product divided and rounded up -/
def upV (a b c : Int) : Int := a * b / c + (if 0 < a * b % c then 1 else 0)

theorem LTab.cD_le {f : Int} {xs : List Int} (h : LTab f xs) (r : Int) (r0 : 0 ≤ r) (k : Nat) : cD r xs (k + 1) ≤ cD r xs k :=
  Int.mul_le_mul (h.step k) (disc_le r r0 k) (disc_bd r r0 (k + 1)).1 (h.nonneg k)

theorem LTab.cD_mono {f : Int} {xs : List Int} (h : LTab f xs) (r : Int) (r0 : 0 ≤ r) (k n : Nat) : cD r xs (k + n) ≤ cD r xs k := by
  induction n with
  | zero => exact Int.le_refl _
  | succ n ih => exact Int.le_trans (h.cD_le r r0 (k + n)) ih

theorem LTab.cN_le {f : Int} {xs : List Int} (h : LTab f xs) (r : Int) (r0 : 0 ≤ r) (k : Nat) : cN r xs k ≤ 152 * cD r xs k := by
  have : ∀ n : Nat, fsum (cD r xs) k n ≤ n * cD r xs k := by
    intro n
    induction n with
    | zero => simp [fsum]
    | succ n ih =>
      rw [fsum]
      have := h.cD_mono r r0 k n
      rw [show ((n + 1 : Nat) : Int) * cD r xs k = (n : Int) * cD r xs k + cD r xs k by rw [Int.natCast_add, Int.add_mul]; omega]
      omega
  exact this 152

theorem LTab.cN_mono {f : Int} {xs : List Int} (h : LTab f xs) (r : Int) (r0 : 0 ≤ r) (k n : Nat) : cN r xs (k + n) ≤ cN r xs k := by
  induction n with
  | zero => exact Int.le_refl _
  | succ n ih =>
    have := h.cN_step r (k + n)
    have := (h.cD_bd r r0 (k + n)).1
    rw [show k + (n + 1) = k + n + 1 by omega]
    omega

theorem LTab.cN_ge {f : Int} {xs : List Int} (h : LTab f xs) (r : Int) (r0 : 0 ≤ r) (k : Nat) : cD r xs k ≤ cN r xs k := by
  have := h.cN_step r k
  have := (h.cN_bd r r0 (k + 1)).1
  omega

/-- a part of N, times an amount, over D -/
theorem LTab.quot {f : Int} {xs : List Int} (h : LTab f xs) (r : Int) (r0 : 0 ≤ r) (k : Nat) (u b : Int) (u0 : 0 ≤ u) (u1 : u ≤ cN r xs k) (hd : cD r xs k ≠ 0) (b0 : 0 ≤ b) (b1 : b ≤ 1000000) :
    u ≤ 1000000000000000000 ∧ 1 ≤ cD r xs k ∧ cD r xs k ≤ 1000000000000000000 ∧ b * u / cD r xs k ≤ 152000000 := by
  have e1 := (h.cN_bd r r0 k).2
  have e2 := h.cD_bd r r0 k
  have e3 := h.cN_le r r0 k
  refine ⟨by omega, by omega, by omega, ?_⟩
  have e4 : b * u ≤ b * (152 * cD r xs k) := Int.mul_le_mul_of_nonneg_left (by omega) b0
  have e5 : b * u / cD r xs k ≤ b * (152 * cD r xs k) / cD r xs k := Int.ediv_le_ediv (by omega) e4
  rw [← Int.mul_assoc, Int.mul_ediv_cancel _ hd] at e5
  omega

theorem upV_eq (a b c : Int) (hc : 1 ≤ c) : ∃ q r : Int, a * b / c = q ∧ a * b % c = r ∧ 0 ≤ r ∧ r < c ∧ (r = 0 → upV a b c = q) ∧ (0 < r → upV a b c = q + 1) := by
  refine ⟨_, _, rfl, rfl, Int.emod_nonneg _ (by omega), Int.emod_lt_of_pos _ (by omega), fun h => ?_, fun h => ?_⟩
  · unfold upV; rw [h]; simp
  · unfold upV; rw [if_pos h]

theorem sup_any (a b c : Int) (w : World) (a0 : 0 ≤ a) (a1 : a ≤ 1000000000000) (b0 : 0 ≤ b) (b1 : b ≤ 1000000000000000000) (c0 : 1 ≤ c) (c1 : c ≤ 1000000000000000000) (hq : a * b / c ≤ 100000000000000000) :
    Calls Tryz.prog 45 #[.int .i64 a, .int .i64 b, .int .i64 c] w fun e w' => e = .returned (.int .i64 (upV a b c)) ∧ w = w' := by
  have HC := Lib.hid (fun W => sdiv_any a b c W a0 a1 b0 b1 c0 c1)
  obtain ⟨e1, e2⟩ := md_small a b c (by omega)
  rw [e1, e2] at HC
  obtain ⟨q, r, hq1, hr1, r0, r1, g1, g2⟩ := upV_eq a b c c0
  have q0 : 0 ≤ q := by rw [← hq1]; exact Int.ediv_nonneg (Int.mul_nonneg a0 b0) (by omega)
  rw [hq1, hr1] at HC
  rw [hq1] at hq
  clear e1 e2 hq1 hr1
  by_cases hz : r = 0
  · have G := Lib.hid (g1 hz)
    subst hz
    clear g1 g2
    go_enter Tryz.func45, Tryz.ntmps45
    go_wp2_with (go_at_call 38; refine (HC.out _).mono ?_; rintro e w' ⟨rfl, rfl⟩)
    go_ret
    exact ⟨ret_int (by rw [G.out]), rfl⟩
  · have h1 : 1 ≤ r := by omega
    have G := Lib.hid (g2 (by omega))
    clear g1 g2
    go_enter Tryz.func45, Tryz.ntmps45
    go_wp2_with (go_at_call 38; refine (HC.out _).mono ?_; rintro e w' ⟨rfl, rfl⟩)
    go_ret
    exact ⟨ret_int (by rw [G.out]), rfl⟩

/-- the code of an annuity: b: is the amount right? -/
def anE (r f : Int) (xs : List Int) (x : Int) (b : Bool) (n : Int) : Int :=
  if coE r f xs x = 0 then (if b = true ∧ (0 ≤ n ∧ n ≤ 120) ∧ x + n ≤ 150 then (if cD r xs (x - f).toNat = 0 then 5 else 0) else 2) else coE r f xs x

theorem anE_iff {r f : Int} {xs : List Int} {x : Int} {b : Bool} {n : Int} : anE r f xs x b n = 0 ↔ coE r f xs x = 0 ∧ b = true ∧ (0 ≤ n ∧ n ≤ 120) ∧ x + n ≤ 150 ∧ cD r xs (x - f).toNat ≠ 0 := by
  unfold anE
  by_cases h1 : coE r f xs x = 0
  · by_cases h2 : b = true ∧ (0 ≤ n ∧ n ≤ 120) ∧ x + n ≤ 150
    · rw [if_pos h1, if_pos h2]
      by_cases h3 : cD r xs (x - f).toNat = 0
      · simp [h3]
      · simp [h3, h1, h2]
    · rw [if_pos h1, if_neg h2]
      constructor
      · intro h; omega
      · rintro ⟨_, a, b, c, _⟩; exact absurd ⟨a, b, c⟩ h2
  · rw [if_neg h1]
    constructor
    · intro h; exact absurd h h1
    · rintro ⟨h, _⟩; exact absurd h h1

theorem inB_no {x a b : Int} (h : ¬ (a ≤ x ∧ x ≤ b)) : inB x a b = false := by
  cases hc : inB x a b
  · rfl
  · exact absurd ((inB_iff _ _ _).1 hc) h

set_option maxHeartbeats 400000 in
theorem ancode_any (r f : Int) (xs : List Int) (a : Option Addr) (l c : Nat) (x : Int) (b : Bool) (n : Int) (w : World) (h : Ints w a l xs) :
    Calls Tryz.prog 116 #[.agg #[.int .i64 f, .slice a l c], .int .i64 r, .int .i64 x, .bool b, .int .i64 n] w fun e w' => e = .returned (.int .i64 (anE r f xs x b n)) ∧ Below w.heap.size w w' := by
  have H := Lib.hid h
  have CO : Hid (∀ W, Hid (Below w.heap.size w W) → Calls Tryz.prog 130 #[.agg #[.int .i64 f, .slice a l c], .int .i64 r, .int .i64 x] W fun e w' => e = .returned (.int .i64 (coE r f xs x)) ∧ Below W.heap.size W w') :=
    Lib.hid (fun W hW => scode_any r f xs a l c x W (H.out.on hW.out))
  clear h
  by_cases hz : coE r f xs x = 0
  · obtain ⟨ht, ⟨r0, r1⟩, x0, x1⟩ := coE_iff.1 hz
    obtain ⟨f0, f1⟩ := ht.1
    have CD : Hid (∀ W, Hid (Below w.heap.size w W) → Calls Tryz.prog 43 #[.agg #[.int .i64 f, .slice a l c], .int .i64 r, .int .i64 x] W fun e w' => e = .returned (.int .i64 (cD r xs (x - f).toNat)) ∧ Below W.heap.size W w') :=
      Lib.hid (fun W hW => sD_any r f xs a l c x W (H.out.on hW.out) ht r0 r1 x0 (by omega))
    rw [hz] at CO
    by_cases hok : b = true ∧ (0 ≤ n ∧ n ≤ 120) ∧ x + n ≤ 150
    · have HR : Hid (anE r f xs x b n = if cD r xs (x - f).toNat = 0 then 5 else 0) := Lib.hid (by unfold anE; rw [if_pos hz, if_pos hok])
      obtain ⟨rfl, ⟨n0, n1⟩, hn⟩ := hok
      have hin : inB n 0 120 = true := (inB_iff _ _ _).2 ⟨n0, n1⟩
      obtain ⟨D, hD⟩ : ∃ D, cD r xs (x - f).toNat = D := ⟨_, rfl⟩
      rw [hD] at CD HR
      clear hD hz ht
      by_cases hd : D = 0
      · subst hd
        go_enter Tryz.func116, Tryz.ntmps116
        go_wp2_with fail
        with_reducible refine (CO.out _ (Lib.hid (box_b _ _))).mono ?_
        rintro e w1 ⟨rfl, hb⟩
        obtain ⟨hB, hc0, hc1⟩ := box2 hb
        have HB := Lib.hid hB
        clear hB hb
        go_wp2_with (go_at_call 82; refine (in_any _ _ _ _).mono ?_; rintro e w' ⟨rfl, rfl⟩)
        with_reducible refine (CD.out _ HB).mono ?_
        rintro e w2 ⟨rfl, hb⟩
        have HB2 := Lib.hid (HB.out.trans (hb.mono HB.out.size))
        clear hb
        go_wp2_with fail
        go_ret
        exact ⟨ret_int (by rw [HR.out]; simp), HB2.out⟩
      · have hd2 : (D == 0) = false := by simp [hd]
        have HR2 : Hid (anE r f xs x true n = 0) := Lib.hid (by rw [HR.out, if_neg hd])
        clear hd HR
        go_enter Tryz.func116, Tryz.ntmps116
        go_wp2_with fail
        with_reducible refine (CO.out _ (Lib.hid (box_b _ _))).mono ?_
        rintro e w1 ⟨rfl, hb⟩
        obtain ⟨hB, hc0, hc1⟩ := box2 hb
        have HB := Lib.hid hB
        clear hB hb
        go_wp2_with (go_at_call 82; refine (in_any _ _ _ _).mono ?_; rintro e w' ⟨rfl, rfl⟩)
        with_reducible refine (CD.out _ HB).mono ?_
        rintro e w2 ⟨rfl, hb⟩
        have HB2 := Lib.hid (HB.out.trans (hb.mono HB.out.size))
        clear hb
        go_wp2_with fail
        go_ret
        exact ⟨ret_int HR2.out.symm, HB2.out⟩
    · have HR : Hid (anE r f xs x b n = 2) := Lib.hid (by unfold anE; rw [if_pos hz, if_neg hok])
      clear hz ht CD
      cases b
      · go_enter Tryz.func116, Tryz.ntmps116
        go_wp2_with fail
        with_reducible refine (CO.out _ (Lib.hid (box_b _ _))).mono ?_
        rintro e w1 ⟨rfl, hb⟩
        obtain ⟨hB, hc0, hc1⟩ := box2 hb
        have HB := Lib.hid hB
        clear hB hb
        go_wp2_with fail
        go_ret
        exact ⟨ret_int HR.out.symm, HB.out⟩
      · by_cases hn : 0 ≤ n ∧ n ≤ 120
        · have hin : inB n 0 120 = true := (inB_iff _ _ _).2 hn
          have hx : 150 < x + n := by simp [hn] at hok; omega
          obtain ⟨n0, n1⟩ := hn
          clear hok
          go_enter Tryz.func116, Tryz.ntmps116
          go_wp2_with fail
          with_reducible refine (CO.out _ (Lib.hid (box_b _ _))).mono ?_
          rintro e w1 ⟨rfl, hb⟩
          obtain ⟨hB, hc0, hc1⟩ := box2 hb
          have HB := Lib.hid hB
          clear hB hb
          go_wp2_with (go_at_call 82; refine (in_any _ _ _ _).mono ?_; rintro e w' ⟨rfl, rfl⟩)
          go_ret
          exact ⟨ret_int HR.out.symm, HB.out⟩
        · have hin : inB n 0 120 = false := inB_no hn
          clear hok hn
          go_enter Tryz.func116, Tryz.ntmps116
          go_wp2_with fail
          with_reducible refine (CO.out _ (Lib.hid (box_b _ _))).mono ?_
          rintro e w1 ⟨rfl, hb⟩
          obtain ⟨hB, hc0, hc1⟩ := box2 hb
          have HB := Lib.hid hB
          clear hB hb
          go_wp2_with (go_at_call 82; refine (in_any _ _ _ _).mono ?_; rintro e w' ⟨rfl, rfl⟩)
          go_ret
          exact ⟨ret_int HR.out.symm, HB.out⟩
  · have HR : Hid (anE r f xs x b n = coE r f xs x) := Lib.hid (by unfold anE; rw [if_neg hz])
    obtain ⟨E, hE⟩ : ∃ E, coE r f xs x = E := ⟨_, rfl⟩
    rw [hE] at CO HR hz
    have hne : (E != 0) = true := by simp [hz]
    clear hE hz
    go_enter Tryz.func116, Tryz.ntmps116
    go_wp2_with fail
    with_reducible refine (CO.out _ (Lib.hid (box_b _ _))).mono ?_
    rintro e w1 ⟨rfl, hb⟩
    obtain ⟨hB, hc0, hc1⟩ := box2 hb
    have HB := Lib.hid hB
    clear hB hb
    go_wp2_with fail
    go_ret
    exact ⟨ret_int HR.out.symm, HB.out⟩

def lifeV (r f : Int) (xs : List Int) (x b : Int) : Int := if anE r f xs x (inB b 1 1000000) 0 = 0 then upV b (cN r xs (x - f).toNat) (cD r xs (x - f).toNat) else 0

def termV (r f : Int) (xs : List Int) (x b n : Int) : Int := if anE r f xs x (inB b 1 1000000) n = 0 then upV b (cN r xs (x - f).toNat - cN r xs (x + n - f).toNat) (cD r xs (x - f).toNat) else 0

def lateV (r f : Int) (xs : List Int) (x b n : Int) : Int := if anE r f xs x (inB b 1 1000000) n = 0 then upV b (cN r xs (x + n - f).toNat) (cD r xs (x - f).toNat) else 0

def sureV (r f : Int) (xs : List Int) (x b n : Int) : Int := if anE r f xs x (inB b 1 1000000) n = 0 then upV b (dsum r 0 n.toNat) 1000000000 + upV b (cN r xs (x + n - f).toNat) (cD r xs (x - f).toNat) else 0

def amtV (r f : Int) (xs : List Int) (x p : Int) : Int := if anE r f xs x (inB p 1 1000000000) 0 = 0 then p * cD r xs (x - f).toNat / cN r xs (x - f).toNat else 0

def IIPost (v E : Int) (w : World) (e : Ending) (w' : World) : Prop := e = .returned (.tuple #[.int .i64 v, .int .i64 E]) ∧ Below w.heap.size w w'

theorem cell_drew {w : World} {p : Addr} {v : Value} (h : w.cell? p = some v) : w.drew.cell? p = some v := h

/-- a part of N, n years later -/
theorem LTab.late {f : Int} {xs : List Int} (h : LTab f xs) (r : Int) (r0 : 0 ≤ r) (x n : Int) (x0 : f ≤ x) (n0 : 0 ≤ n) : 0 ≤ cN r xs (x + n - f).toNat ∧ cN r xs (x + n - f).toNat ≤ cN r xs (x - f).toNat := by
  refine ⟨(h.cN_bd r r0 _).1, ?_⟩
  have := h.cN_mono r r0 (x - f).toNat n.toNat
  rw [show (x - f).toNat + n.toNat = (x + n - f).toNat by omega] at this
  exact this

theorem upV_bd (a b c m : Int) (h0 : 0 ≤ a) (h1 : 0 ≤ b) (h2 : 1 ≤ c) (hq : a * b / c ≤ m) : 0 ≤ upV a b c ∧ upV a b c ≤ m + 1 := by
  have := Int.ediv_nonneg (Int.mul_nonneg h0 h1) (show 0 ≤ c by omega)
  unfold upV
  split <;> omega

theorem sure_q (r b : Int) (n : Int) (r0 : 0 ≤ r) (n0 : 0 ≤ n) (n1 : n ≤ 120) (b0 : 0 ≤ b) (b1 : b ≤ 1000000) : 0 ≤ dsum r 0 n.toNat ∧ dsum r 0 n.toNat ≤ 120000000000 ∧ b * dsum r 0 n.toNat / 1000000000 ≤ 120000000 := by
  obtain ⟨d0, d1⟩ := dsum_bd r r0 0 n.toNat
  refine ⟨d0, by omega, ?_⟩
  have e : b * dsum r 0 n.toNat ≤ 1000000 * 120000000000 := Int.mul_le_mul b1 (by omega) d0 (by omega)
  omega

end Go.Proofs.YtdlfofdibooidaaGreat

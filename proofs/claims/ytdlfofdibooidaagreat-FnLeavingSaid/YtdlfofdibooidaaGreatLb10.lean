/- Merged: Asu, ColL, AnnL, Asl, Upv. -/
import Derived.Test.YtdlfofdibooidaaGreatLb2
import Derived.Test.YtdlfofdibooidaaGreatLb9
import Derived.Deep.RegionHeld3

/- Assurances: numbers, the model's code, numerators and denominators. (Written by wip/gen/asu.py.) | Assurances: the model's prices, level premiums, sums, fractions, parts. (Written by wip/gen/asv.py.) -/
namespace Go.Proofs.YtdlfofdibooidaaGreat
open Go.ChangeShapes Go.WideShapes Go.ChangeAt Go.RowKit
set_option linter.unusedVariables false
set_option maxRecDepth 100000

/-- do a kind and a number of years belong together? -/
def fitB (k n : Int) : Bool := inB k 0 3 && (decide (k = 0) == decide (n = 0))

/-- the numerator of the value of an assurance -/
def asT (r f : Int) (xs : List Int) (k x n : Int) : Int :=
  if k = 0 then cM r xs (x - f).toNat else if k = 1 then cM r xs (x - f).toNat - cM r xs (x + n - f).toNat else if k = 2 then cM r xs (x - f).toNat - cM r xs (x + n - f).toNat + cD r xs (x + n - f).toNat else cD r xs (x + n - f).toNat

/-- the payments of a level premium -/
def asB (r f : Int) (xs : List Int) (k x n : Int) : Int := if k = 0 then cN r xs (x - f).toNat else cN r xs (x - f).toNat - cN r xs (x + n - f).toNat

theorem LTab.cCD {f : Int} {xs : List Int} (h : LTab f xs) (r : Int) (r0 : 0 ≤ r) (k : Nat) : cC r xs k + cD r xs (k + 1) ≤ cD r xs k := by
  have e := Int.mul_le_mul_of_nonneg_left (disc_le r r0 k) (h.nonneg k)
  unfold cC cD
  rw [Int.sub_mul]
  omega

theorem LTab.cM_D {f : Int} {xs : List Int} (h : LTab f xs) (r : Int) (r0 : 0 ≤ r) (k n : Nat) : cM r xs k - cM r xs (k + n) + cD r xs (k + n) ≤ cD r xs k := by
  induction n with
  | zero => simp
  | succ n ih =>
    have e := h.cM_step r (k + n)
    have c := h.cCD r r0 (k + n)
    rw [show k + (n + 1) = k + n + 1 by omega]
    omega

theorem LTab.cM_mono {f : Int} {xs : List Int} (h : LTab f xs) (r : Int) (r0 : 0 ≤ r) (k n : Nat) : cM r xs (k + n) ≤ cM r xs k := by
  induction n with
  | zero => exact Int.le_refl _
  | succ n ih =>
    have := h.cM_step r (k + n)
    have := (h.cC_bd r r0 (k + n)).1
    rw [show k + (n + 1) = k + n + 1 by omega]
    omega

theorem LTab.cM_le {f : Int} {xs : List Int} (h : LTab f xs) (r : Int) (r0 : 0 ≤ r) (k : Nat) : cM r xs k ≤ cD r xs k := by
  have e := h.cM_D r r0 k 152
  have e2 := h.cM_far r (k + 152) (by have := h.short; omega)
  have e3 := (h.cD_bd r r0 (k + 152)).1
  omega

/-- the columns n years later -/
theorem LTab.off {f : Int} {xs : List Int} (h : LTab f xs) (r : Int) (r0 : 0 ≤ r) (x n : Int) (x0 : f ≤ x) (n0 : 0 ≤ n) :
    (0 ≤ cM r xs (x + n - f).toNat ∧ cM r xs (x + n - f).toNat ≤ cM r xs (x - f).toNat ∧ cM r xs (x - f).toNat ≤ cD r xs (x - f).toNat) ∧ (0 ≤ cD r xs (x + n - f).toNat ∧ cD r xs (x + n - f).toNat ≤ cD r xs (x - f).toNat ∧ cD r xs (x - f).toNat ≤ 1000000000000000) ∧ cM r xs (x - f).toNat - cM r xs (x + n - f).toNat + cD r xs (x + n - f).toNat ≤ cD r xs (x - f).toNat := by
  have e : (x + n - f).toNat = (x - f).toNat + n.toNat := by omega
  rw [e]
  exact ⟨⟨(h.cM_bd r r0 _).1, h.cM_mono r r0 _ _, h.cM_le r r0 _⟩, ⟨(h.cD_bd r r0 _).1, h.cD_mono r r0 _ _, (h.cD_bd r r0 _).2⟩, h.cM_D r r0 _ _⟩

theorem LTab.top {f : Int} {xs : List Int} (h : LTab f xs) (r : Int) (r0 : 0 ≤ r) (k x n : Int) (x0 : f ≤ x) (n0 : 0 ≤ n) : 0 ≤ asT r f xs k x n ∧ asT r f xs k x n ≤ cD r xs (x - f).toNat ∧ cD r xs (x - f).toNat ≤ 1000000000000000 := by
  obtain ⟨⟨a1, a2, a3⟩, ⟨b1, b2, b3⟩, c1⟩ := h.off r r0 x n x0 n0
  unfold asT
  split
  · omega
  · split
    · omega
    · split <;> omega

theorem LTab.bot {f : Int} {xs : List Int} (h : LTab f xs) (r : Int) (r0 : 0 ≤ r) (k x n : Int) (x0 : f ≤ x) (n0 : 0 ≤ n) (hk : k ≠ 0 → 1 ≤ n) : cD r xs (x - f).toNat ≤ asB r f xs k x n ∧ asB r f xs k x n ≤ 152000000000000000 := by
  have e1 := (h.cN_bd r r0 (x - f).toNat).2
  have e2 := h.cN_ge r r0 (x - f).toNat
  unfold asB
  split
  · omega
  · rename_i hz
    have hn := hk hz
    have e3 := h.cN_step r (x - f).toNat
    have e4 := h.cN_mono r r0 ((x - f).toNat + 1) (n.toNat - 1)
    rw [show (x - f).toNat + 1 + (n.toNat - 1) = (x + n - f).toNat by omega] at e4
    have e5 := (h.cN_bd r r0 (x + n - f).toNat).1
    omega

theorem fitB_iff {k n : Int} : fitB k n = true ↔ (0 ≤ k ∧ k ≤ 3) ∧ (k = 0 ↔ n = 0) := by
  unfold fitB
  rw [← inB_iff]
  cases inB k 0 3
  · simp
  · by_cases h1 : k = 0 <;> by_cases h2 : n = 0 <;> simp [h1, h2]

/-- a part of a number, times an amount, over the number -/
theorem quot_le (b u v : Int) (b0 : 0 ≤ b) (h : u ≤ v) (v1 : 1 ≤ v) : b * u / v ≤ b := by
  have h1 : b * u ≤ b * v := Int.mul_le_mul_of_nonneg_left h b0
  have h2 : b * u / v ≤ b * v / v := Int.ediv_le_ediv (by omega) h1
  rw [Int.mul_ediv_cancel _ (by omega)] at h2
  exact h2

theorem ssum_any (n : Int) (w : World) : Calls Tryz.prog 84 #[.int .i64 n] w fun e w' => e = .returned (.bool (inB n 1 100000000)) ∧ w = w' := by
  go_enter Tryz.func84, Tryz.ntmps84
  go_wp2_with (go_at_call 82; refine (in_any _ _ _ _).mono ?_; rintro e w' ⟨rfl, rfl⟩)
  go_ret
  exact ⟨rfl, rfl⟩

set_option maxHeartbeats 1000000 in
theorem ascode_any (r f : Int) (xs : List Int) (a : Option Addr) (l c : Nat) (k x n : Int) (b : Bool) (w : World) (h : Ints w a l xs) :
    Calls Tryz.prog 83 #[.agg #[.int .i64 f, .slice a l c], .int .i64 r, .int .i64 k, .int .i64 x, .int .i64 n, .bool b] w fun e w' => e = .returned (.int .i64 (anE r f xs x (b && fitB k n) n)) ∧ Below w.heap.size w w' := by
  have H := Lib.hid h
  have CA : Hid (∀ B W, Hid (Below w.heap.size w W) → Calls Tryz.prog 116 #[.agg #[.int .i64 f, .slice a l c], .int .i64 r, .int .i64 x, .bool B, .int .i64 n] W fun e w' => e = .returned (.int .i64 (anE r f xs x B n)) ∧ Below W.heap.size W w') :=
    Lib.hid (fun B W hW => ancode_any r f xs a l c x B n W (H.out.on hW.out))
  clear h
  by_cases hk : inB k 0 3 = true
  · by_cases h1 : k = 0
    · subst h1
      by_cases h2 : n = 0
      · subst h2
        cases b
        · have HF : Hid ((false && fitB 0 0) = false) := Lib.hid (by unfold fitB; rw [hk]; simp)
          go_enter Tryz.func83, Tryz.ntmps83
          go_wp2_with (go_at_call 82; refine (in_any _ _ _ _).mono ?_; rintro e w' ⟨rfl, rfl⟩)
          with_reducible refine (CA.out _ _ (Lib.hid (box_b _ _))).mono ?_
          rintro e w1 ⟨rfl, hb⟩
          obtain ⟨hB, hc0, hc1⟩ := box2 hb
          have HB := Lib.hid hB
          clear hB hb
          go_wp2_with fail
          go_ret
          exact ⟨ret_int (by rw [HF.out]), HB.out⟩
        · have HF : Hid ((true && fitB 0 0) = true) := Lib.hid (by unfold fitB; rw [hk]; simp)
          go_enter Tryz.func83, Tryz.ntmps83
          go_wp2_with (go_at_call 82; refine (in_any _ _ _ _).mono ?_; rintro e w' ⟨rfl, rfl⟩)
          with_reducible refine (CA.out _ _ (Lib.hid (box_b _ _))).mono ?_
          rintro e w1 ⟨rfl, hb⟩
          obtain ⟨hB, hc0, hc1⟩ := box2 hb
          have HB := Lib.hid hB
          clear hB hb
          go_wp2_with fail
          go_ret
          exact ⟨ret_int (by rw [HF.out]), HB.out⟩
      · have hn1 : (n == 0) = false := by simp [h2]
        cases b
        · have HF : Hid ((false && fitB 0 n) = false) := Lib.hid (by unfold fitB; rw [hk]; simp)
          clear h2
          go_enter Tryz.func83, Tryz.ntmps83
          go_wp2_with (go_at_call 82; refine (in_any _ _ _ _).mono ?_; rintro e w' ⟨rfl, rfl⟩)
          with_reducible refine (CA.out _ _ (Lib.hid (box_b _ _))).mono ?_
          rintro e w1 ⟨rfl, hb⟩
          obtain ⟨hB, hc0, hc1⟩ := box2 hb
          have HB := Lib.hid hB
          clear hB hb
          go_wp2_with fail
          go_ret
          exact ⟨ret_int (by rw [HF.out]), HB.out⟩
        · have HF : Hid ((true && fitB 0 n) = false) := Lib.hid (by unfold fitB; rw [hk]; simp [h2])
          clear h2
          go_enter Tryz.func83, Tryz.ntmps83
          go_wp2_with (go_at_call 82; refine (in_any _ _ _ _).mono ?_; rintro e w' ⟨rfl, rfl⟩)
          with_reducible refine (CA.out _ _ (Lib.hid (box_b _ _))).mono ?_
          rintro e w1 ⟨rfl, hb⟩
          obtain ⟨hB, hc0, hc1⟩ := box2 hb
          have HB := Lib.hid hB
          clear hB hb
          go_wp2_with fail
          go_ret
          exact ⟨ret_int (by rw [HF.out]), HB.out⟩
    · have hk1 : (k == 0) = false := by simp [h1]
      by_cases h2 : n = 0
      · subst h2
        cases b
        · have HF : Hid ((false && fitB k 0) = false) := Lib.hid (by unfold fitB; rw [hk]; simp)
          clear h1
          go_enter Tryz.func83, Tryz.ntmps83
          go_wp2_with (go_at_call 82; refine (in_any _ _ _ _).mono ?_; rintro e w' ⟨rfl, rfl⟩)
          with_reducible refine (CA.out _ _ (Lib.hid (box_b _ _))).mono ?_
          rintro e w1 ⟨rfl, hb⟩
          obtain ⟨hB, hc0, hc1⟩ := box2 hb
          have HB := Lib.hid hB
          clear hB hb
          go_wp2_with fail
          go_ret
          exact ⟨ret_int (by rw [HF.out]), HB.out⟩
        · have HF : Hid ((true && fitB k 0) = false) := Lib.hid (by unfold fitB; rw [hk]; simp [h1])
          clear h1
          go_enter Tryz.func83, Tryz.ntmps83
          go_wp2_with (go_at_call 82; refine (in_any _ _ _ _).mono ?_; rintro e w' ⟨rfl, rfl⟩)
          with_reducible refine (CA.out _ _ (Lib.hid (box_b _ _))).mono ?_
          rintro e w1 ⟨rfl, hb⟩
          obtain ⟨hB, hc0, hc1⟩ := box2 hb
          have HB := Lib.hid hB
          clear hB hb
          go_wp2_with fail
          go_ret
          exact ⟨ret_int (by rw [HF.out]), HB.out⟩
      · have hn1 : (n == 0) = false := by simp [h2]
        cases b
        · have HF : Hid ((false && fitB k n) = false) := Lib.hid (by unfold fitB; rw [hk]; simp)
          clear h1
          clear h2
          go_enter Tryz.func83, Tryz.ntmps83
          go_wp2_with (go_at_call 82; refine (in_any _ _ _ _).mono ?_; rintro e w' ⟨rfl, rfl⟩)
          with_reducible refine (CA.out _ _ (Lib.hid (box_b _ _))).mono ?_
          rintro e w1 ⟨rfl, hb⟩
          obtain ⟨hB, hc0, hc1⟩ := box2 hb
          have HB := Lib.hid hB
          clear hB hb
          go_wp2_with fail
          go_ret
          exact ⟨ret_int (by rw [HF.out]), HB.out⟩
        · have HF : Hid ((true && fitB k n) = true) := Lib.hid (by unfold fitB; rw [hk]; simp [h1, h2])
          clear h1
          clear h2
          go_enter Tryz.func83, Tryz.ntmps83
          go_wp2_with (go_at_call 82; refine (in_any _ _ _ _).mono ?_; rintro e w' ⟨rfl, rfl⟩)
          with_reducible refine (CA.out _ _ (Lib.hid (box_b _ _))).mono ?_
          rintro e w1 ⟨rfl, hb⟩
          obtain ⟨hB, hc0, hc1⟩ := box2 hb
          have HB := Lib.hid hB
          clear hB hb
          go_wp2_with fail
          go_ret
          exact ⟨ret_int (by rw [HF.out]), HB.out⟩
  · have hk2 : inB k 0 3 = false := by simpa using hk
    have HF : Hid ((b && fitB k n) = false) := Lib.hid (by unfold fitB; rw [hk2]; simp)
    clear hk
    cases b
    · go_enter Tryz.func83, Tryz.ntmps83
      go_wp2_with (go_at_call 82; refine (in_any _ _ _ _).mono ?_; rintro e w' ⟨rfl, rfl⟩)
      with_reducible refine (CA.out _ _ (Lib.hid (box_b _ _))).mono ?_
      rintro e w1 ⟨rfl, hb⟩
      obtain ⟨hB, hc0, hc1⟩ := box2 hb
      have HB := Lib.hid hB
      clear hB hb
      go_wp2_with fail
      go_ret
      exact ⟨ret_int (by rw [HF.out]), HB.out⟩
    · go_enter Tryz.func83, Tryz.ntmps83
      go_wp2_with (go_at_call 82; refine (in_any _ _ _ _).mono ?_; rintro e w' ⟨rfl, rfl⟩)
      with_reducible refine (CA.out _ _ (Lib.hid (box_b _ _))).mono ?_
      rintro e w1 ⟨rfl, hb⟩
      obtain ⟨hB, hc0, hc1⟩ := box2 hb
      have HB := Lib.hid hB
      clear hB hb
      go_wp2_with fail
      go_ret
      exact ⟨ret_int (by rw [HF.out]), HB.out⟩

set_option maxHeartbeats 4000000 in
theorem stop_any (r f : Int) (xs : List Int) (a : Option Addr) (l c : Nat) (k x n : Int) (w : World) (h : Ints w a l xs) (ht : LTab f xs) (r0 : 0 ≤ r) (r1 : r ≤ 200) (x0 : f ≤ x) (n0 : 0 ≤ n) (n1 : n ≤ 120) (xn : x + n ≤ 150) :
    Calls Tryz.prog 46 #[.agg #[.int .i64 f, .slice a l c], .int .i64 r, .int .i64 k, .int .i64 x, .int .i64 n] w fun e w' => e = .returned (.int .i64 (asT r f xs k x n)) ∧ Below w.heap.size w w' := by
  have H := Lib.hid h
  obtain ⟨f0, f1⟩ := ht.1
  have q6 : IntKind.i64.wrap (x + n) = x + n := IntWalk.i64_in _ (by omega)
  obtain ⟨⟨a1, a2, a3⟩, ⟨b1, b2, b3⟩, c1⟩ := ht.off r r0 x n x0 n0
  unfold asT
  by_cases k0 : k = 0
  · rw [if_pos k0]
    subst k0
    clear a1 a2 a3 b1 b2 b3 c1
    have C1 : Hid (∀ W, Hid (Below w.heap.size w W) → Calls Tryz.prog 74 #[.agg #[.int .i64 f, .slice a l c], .int .i64 r, .int .i64 x] W fun e w' => e = .returned (.int .i64 (cM r xs (x - f).toNat)) ∧ Below W.heap.size W w') :=
      Lib.hid (fun W hW => sM_any r f xs a l c x W (H.out.on hW.out) ht r0 r1 (by omega) (by omega))
    obtain ⟨M, hM⟩ : ∃ y_, cM r xs (x - f).toNat = y_ := ⟨_, rfl⟩
    rw [hM] at C1 ⊢
    clear hM
    clear h ht 
    go_enter Tryz.func46, Tryz.ntmps46
    go_wp2_with fail
    with_reducible refine (C1.out _ (Lib.hid (box_b _ _))).mono ?_
    rintro e w1 ⟨rfl, hb⟩
    obtain ⟨hB, hc0, hc1⟩ := box2 hb
    have HB := Lib.hid hB
    clear hB hb
    go_wp2_with fail
    go_ret
    exact ⟨rfl, HB.out⟩
  · rw [if_neg k0]
    have z0 : (k == 0) = false := by simp [k0]
    by_cases k1 : k = 1
    · rw [if_pos k1]
      subst k1
      clear b1 b2 c1
      have CM : Hid (∀ W, Hid (Below w.heap.size w W) → Calls Tryz.prog 74 #[.agg #[.int .i64 f, .slice a l c], .int .i64 r, .int .i64 x] W fun e w' => e = .returned (.int .i64 (cM r xs (x - f).toNat)) ∧ Below W.heap.size W w') :=
        Lib.hid (fun W hW => sM_any r f xs a l c x W (H.out.on hW.out) ht r0 r1 (by omega) (by omega))
      have CZ : Hid (∀ W, Hid (Below w.heap.size w W) → Calls Tryz.prog 74 #[.agg #[.int .i64 f, .slice a l c], .int .i64 r, .int .i64 (x + n)] W fun e w' => e = .returned (.int .i64 (cM r xs (x + n - f).toNat)) ∧ Below W.heap.size W w') :=
        Lib.hid (fun W hW => sM_any r f xs a l c (x + n) W (H.out.on hW.out) ht r0 r1 (by omega) (by omega))
      obtain ⟨M, hM⟩ : ∃ y_, cM r xs (x - f).toNat = y_ := ⟨_, rfl⟩
      rw [hM] at CM a2 a3 ⊢
      clear hM
      obtain ⟨Z, hZ⟩ : ∃ y_, cM r xs (x + n - f).toNat = y_ := ⟨_, rfl⟩
      rw [hZ] at CZ a1 a2 ⊢
      clear hZ
      have q5 : IntKind.i64.wrap (M - Z) = M - Z := IntWalk.i64_in _ (by omega)
      clear a1 a2 a3 b3
      clear h ht k0 z0
      go_enter Tryz.func46, Tryz.ntmps46
      go_wp2_with fail
      go_region_held3 (fun w' => w'.cell? ⟨w.heap.size, 0, none⟩ = some (.int .i64 f) ∧ w'.cell? ⟨w.heap.size, 1, none⟩ = some (.slice a l c) ∧ Hid (Below w.heap.size w w'))
          (first
            | (go_split_ands; exact ⟨by with_reducible assumption, by with_reducible assumption, by with_reducible assumption⟩)
            | (go_split_ands; exact ⟨by go_simp, by go_simp, Lib.hid (Below.drew (box_b _ _))⟩)
            | (go_split_ands; exact ⟨by go_simp, by go_simp, Lib.hid (box_b _ _)⟩)
            | (go_split_ands; exact ⟨cell_drew (by with_reducible assumption), cell_drew (by with_reducible assumption), Lib.hid (Below.drew (Hid.out (by with_reducible assumption)))⟩)
            | (go_split_ands; exact ⟨keep2 hb (by with_reducible assumption), keep2 hb (by with_reducible assumption), Lib.hid (Below.trans (Hid.out (by with_reducible assumption)) (Below.mono hb (Below.size (Hid.out (by with_reducible assumption)))))⟩)
            | fail)
          (first
            | (go_split_ands; go_at_call 74; ((with_reducible refine (CM.out _ (by with_reducible assumption)).mono ?_); rintro e w' ⟨rfl, hb⟩))
            | (go_split_ands; go_at_call 74; ((with_reducible refine (CZ.out _ (by with_reducible assumption)).mono ?_); rintro e w' ⟨rfl, hb⟩))
            | fail)
      all_goals
        go_split_ands
        go_wp2_with fail
        go_ret
        exact ⟨rfl, Hid.out (by with_reducible assumption)⟩
    · rw [if_neg k1]
      have z1 : (k == 1) = false := by simp [k1]
      by_cases k2 : k = 2
      · rw [if_pos k2]
        subst k2
        have CM : Hid (∀ W, Hid (Below w.heap.size w W) → Calls Tryz.prog 74 #[.agg #[.int .i64 f, .slice a l c], .int .i64 r, .int .i64 x] W fun e w' => e = .returned (.int .i64 (cM r xs (x - f).toNat)) ∧ Below W.heap.size W w') :=
          Lib.hid (fun W hW => sM_any r f xs a l c x W (H.out.on hW.out) ht r0 r1 (by omega) (by omega))
        have CZ : Hid (∀ W, Hid (Below w.heap.size w W) → Calls Tryz.prog 74 #[.agg #[.int .i64 f, .slice a l c], .int .i64 r, .int .i64 (x + n)] W fun e w' => e = .returned (.int .i64 (cM r xs (x + n - f).toNat)) ∧ Below W.heap.size W w') :=
          Lib.hid (fun W hW => sM_any r f xs a l c (x + n) W (H.out.on hW.out) ht r0 r1 (by omega) (by omega))
        have CD : Hid (∀ W, Hid (Below w.heap.size w W) → Calls Tryz.prog 43 #[.agg #[.int .i64 f, .slice a l c], .int .i64 r, .int .i64 (x + n)] W fun e w' => e = .returned (.int .i64 (cD r xs (x + n - f).toNat)) ∧ Below W.heap.size W w') :=
          Lib.hid (fun W hW => sD_any r f xs a l c (x + n) W (H.out.on hW.out) ht r0 r1 (by omega) (by omega))
        obtain ⟨M, hM⟩ : ∃ y_, cM r xs (x - f).toNat = y_ := ⟨_, rfl⟩
        rw [hM] at CM a2 a3 c1 ⊢
        clear hM
        obtain ⟨Z, hZ⟩ : ∃ y_, cM r xs (x + n - f).toNat = y_ := ⟨_, rfl⟩
        rw [hZ] at CZ a1 a2 c1 ⊢
        clear hZ
        obtain ⟨D, hD⟩ : ∃ y_, cD r xs (x + n - f).toNat = y_ := ⟨_, rfl⟩
        rw [hD] at CD b1 b2 c1 ⊢
        clear hD
        have q5 : IntKind.i64.wrap (M - Z) = M - Z := IntWalk.i64_in _ (by omega)
        have q7 : IntKind.i64.wrap (M - Z + D) = M - Z + D := IntWalk.i64_in _ (by omega)
        clear a1 a2 a3 b1 b2 b3 c1
        clear h ht k0 k1 z0 z1
        go_enter Tryz.func46, Tryz.ntmps46
        go_wp2_with fail
        go_region_held3 (fun w' => w'.cell? ⟨w.heap.size, 0, none⟩ = some (.int .i64 f) ∧ w'.cell? ⟨w.heap.size, 1, none⟩ = some (.slice a l c) ∧ Hid (Below w.heap.size w w'))
            (first
              | (go_split_ands; exact ⟨by with_reducible assumption, by with_reducible assumption, by with_reducible assumption⟩)
              | (go_split_ands; exact ⟨by go_simp, by go_simp, Lib.hid (Below.drew (box_b _ _))⟩)
              | (go_split_ands; exact ⟨by go_simp, by go_simp, Lib.hid (box_b _ _)⟩)
              | (go_split_ands; exact ⟨cell_drew (by with_reducible assumption), cell_drew (by with_reducible assumption), Lib.hid (Below.drew (Hid.out (by with_reducible assumption)))⟩)
              | (go_split_ands; exact ⟨keep2 hb (by with_reducible assumption), keep2 hb (by with_reducible assumption), Lib.hid (Below.trans (Hid.out (by with_reducible assumption)) (Below.mono hb (Below.size (Hid.out (by with_reducible assumption)))))⟩)
              | fail)
            (first
              | (go_split_ands; go_at_call 74; ((with_reducible refine (CM.out _ (by with_reducible assumption)).mono ?_); rintro e w' ⟨rfl, hb⟩))
              | (go_split_ands; go_at_call 74; ((with_reducible refine (CZ.out _ (by with_reducible assumption)).mono ?_); rintro e w' ⟨rfl, hb⟩))
              | (go_split_ands; go_at_call 43; ((with_reducible refine (CD.out _ (by with_reducible assumption)).mono ?_); rintro e w' ⟨rfl, hb⟩))
              | fail)
        all_goals
          go_split_ands
          go_wp2_with fail
          go_ret
          exact ⟨rfl, Hid.out (by with_reducible assumption)⟩
      · rw [if_neg k2]
        have z2 : (k == 2) = false := by simp [k2]
        clear a1 a2 a3 b1 b2 b3 c1
        have C1 : Hid (∀ W, Hid (Below w.heap.size w W) → Calls Tryz.prog 43 #[.agg #[.int .i64 f, .slice a l c], .int .i64 r, .int .i64 (x + n)] W fun e w' => e = .returned (.int .i64 (cD r xs (x + n - f).toNat)) ∧ Below W.heap.size W w') :=
          Lib.hid (fun W hW => sD_any r f xs a l c (x + n) W (H.out.on hW.out) ht r0 r1 (by omega) (by omega))
        obtain ⟨M, hM⟩ : ∃ y_, cD r xs (x + n - f).toNat = y_ := ⟨_, rfl⟩
        rw [hM] at C1 ⊢
        clear hM
        clear h ht k0 k1 k2
        go_enter Tryz.func46, Tryz.ntmps46
        go_wp2_with fail
        with_reducible refine (C1.out _ (Lib.hid (box_b _ _))).mono ?_
        rintro e w1 ⟨rfl, hb⟩
        obtain ⟨hB, hc0, hc1⟩ := box2 hb
        have HB := Lib.hid hB
        clear hB hb
        go_wp2_with fail
        go_ret
        exact ⟨rfl, HB.out⟩

set_option maxHeartbeats 4000000 in
theorem sbase_any (r f : Int) (xs : List Int) (a : Option Addr) (l c : Nat) (k x n : Int) (w : World) (h : Ints w a l xs) (ht : LTab f xs) (r0 : 0 ≤ r) (r1 : r ≤ 200) (x0 : f ≤ x) (n0 : 0 ≤ n) (n1 : n ≤ 120) (xn : x + n ≤ 150) :
    Calls Tryz.prog 63 #[.agg #[.int .i64 f, .slice a l c], .int .i64 r, .int .i64 k, .int .i64 x, .int .i64 n] w fun e w' => e = .returned (.int .i64 (asB r f xs k x n)) ∧ Below w.heap.size w w' := by
  have H := Lib.hid h
  obtain ⟨f0, f1⟩ := ht.1
  have q6 : IntKind.i64.wrap (x + n) = x + n := IntWalk.i64_in _ (by omega)
  have g1 := ht.cN_bd r r0 (x - f).toNat
  have g2 := ht.cN_bd r r0 (x + n - f).toNat
  unfold asB
  by_cases k0 : k = 0
  · rw [if_pos k0]
    subst k0
    clear g1 g2
    have C1 : Hid (∀ W, Hid (Below w.heap.size w W) → Calls Tryz.prog 102 #[.agg #[.int .i64 f, .slice a l c], .int .i64 r, .int .i64 x] W fun e w' => e = .returned (.int .i64 (cN r xs (x - f).toNat)) ∧ Below W.heap.size W w') :=
      Lib.hid (fun W hW => sN_any r f xs a l c x W (H.out.on hW.out) ht r0 r1 (by omega) (by omega))
    obtain ⟨M, hM⟩ : ∃ y_, cN r xs (x - f).toNat = y_ := ⟨_, rfl⟩
    rw [hM] at C1 ⊢
    clear hM
    clear h ht 
    go_enter Tryz.func63, Tryz.ntmps63
    go_wp2_with fail
    with_reducible refine (C1.out _ (Lib.hid (box_b _ _))).mono ?_
    rintro e w1 ⟨rfl, hb⟩
    obtain ⟨hB, hc0, hc1⟩ := box2 hb
    have HB := Lib.hid hB
    clear hB hb
    go_wp2_with fail
    go_ret
    exact ⟨rfl, HB.out⟩
  · rw [if_neg k0]
    have z0 : (k == 0) = false := by simp [k0]
    have CM : Hid (∀ W, Hid (Below w.heap.size w W) → Calls Tryz.prog 102 #[.agg #[.int .i64 f, .slice a l c], .int .i64 r, .int .i64 x] W fun e w' => e = .returned (.int .i64 (cN r xs (x - f).toNat)) ∧ Below W.heap.size W w') :=
      Lib.hid (fun W hW => sN_any r f xs a l c x W (H.out.on hW.out) ht r0 r1 (by omega) (by omega))
    have CZ : Hid (∀ W, Hid (Below w.heap.size w W) → Calls Tryz.prog 102 #[.agg #[.int .i64 f, .slice a l c], .int .i64 r, .int .i64 (x + n)] W fun e w' => e = .returned (.int .i64 (cN r xs (x + n - f).toNat)) ∧ Below W.heap.size W w') :=
      Lib.hid (fun W hW => sN_any r f xs a l c (x + n) W (H.out.on hW.out) ht r0 r1 (by omega) (by omega))
    obtain ⟨M, hM⟩ : ∃ y_, cN r xs (x - f).toNat = y_ := ⟨_, rfl⟩
    rw [hM] at CM g1 ⊢
    clear hM
    obtain ⟨Z, hZ⟩ : ∃ y_, cN r xs (x + n - f).toNat = y_ := ⟨_, rfl⟩
    rw [hZ] at CZ g2 ⊢
    clear hZ
    have q5 : IntKind.i64.wrap (M - Z) = M - Z := IntWalk.i64_in _ (by omega)
    clear g1 g2
    clear h ht k0
    go_enter Tryz.func63, Tryz.ntmps63
    go_wp2_with fail
    go_region_held3 (fun w' => w'.cell? ⟨w.heap.size, 0, none⟩ = some (.int .i64 f) ∧ w'.cell? ⟨w.heap.size, 1, none⟩ = some (.slice a l c) ∧ Hid (Below w.heap.size w w'))
        (first
          | (go_split_ands; exact ⟨by with_reducible assumption, by with_reducible assumption, by with_reducible assumption⟩)
          | (go_split_ands; exact ⟨by go_simp, by go_simp, Lib.hid (Below.drew (box_b _ _))⟩)
          | (go_split_ands; exact ⟨by go_simp, by go_simp, Lib.hid (box_b _ _)⟩)
          | (go_split_ands; exact ⟨cell_drew (by with_reducible assumption), cell_drew (by with_reducible assumption), Lib.hid (Below.drew (Hid.out (by with_reducible assumption)))⟩)
          | (go_split_ands; exact ⟨keep2 hb (by with_reducible assumption), keep2 hb (by with_reducible assumption), Lib.hid (Below.trans (Hid.out (by with_reducible assumption)) (Below.mono hb (Below.size (Hid.out (by with_reducible assumption)))))⟩)
          | fail)
        (first
          | (go_split_ands; go_at_call 102; ((with_reducible refine (CM.out _ (by with_reducible assumption)).mono ?_); rintro e w' ⟨rfl, hb⟩))
          | (go_split_ands; go_at_call 102; ((with_reducible refine (CZ.out _ (by with_reducible assumption)).mono ?_); rintro e w' ⟨rfl, hb⟩))
          | fail)
    all_goals
      go_split_ands
      go_wp2_with fail
      go_ret
      exact ⟨rfl, Hid.out (by with_reducible assumption)⟩

/-- the code of an assurance -/
def asE (r f : Int) (xs : List Int) (k x n b : Int) : Int := anE r f xs x (inB b 1 100000000 && fitB k n) n

def priV (r f : Int) (xs : List Int) (k x n b : Int) : Int := if asE r f xs k x n b = 0 then upV b (asT r f xs k x n) (cD r xs (x - f).toNat) else 0

def levV (r f : Int) (xs : List Int) (k x n b : Int) : Int := if asE r f xs k x n b = 0 then upV b (asT r f xs k x n) (asB r f xs k x n) else 0

def sumE (r f : Int) (xs : List Int) (k x n b : Int) : Int := if asE r f xs k x n b = 0 then (if asT r f xs k x n = 0 then 4 else if b * cD r xs (x - f).toNat / asT r f xs k x n ≤ 1000000000000000000 then 0 else 3) else asE r f xs k x n b

def sumV (r f : Int) (xs : List Int) (k x n b : Int) : Int := if sumE r f xs k x n b = 0 then b * cD r xs (x - f).toNat / asT r f xs k x n else 0

def numE (r f : Int) (xs : List Int) (k x n : Int) : Int := anE r f xs x (fitB k n) n

def numT (r f : Int) (xs : List Int) (k x n : Int) : Int := if numE r f xs k x n = 0 then asT r f xs k x n else 0

def numD (r f : Int) (xs : List Int) (k x n : Int) : Int := if numE r f xs k x n = 0 then cD r xs (x - f).toNat else 0

def IIIPost (v u E : Int) (w : World) (e : Ending) (w' : World) : Prop := e = .returned (.tuple #[.int .i64 v, .int .i64 u, .int .i64 E]) ∧ Below w.heap.size w w'

/-- what an assurance without an error is -/
theorem as_in {r f : Int} {xs : List Int} {x n : Int} {B : Bool} {k : Int} (h : anE r f xs x (B && fitB k n) n = 0) : B = true ∧ ((0 ≤ k ∧ k ≤ 3) ∧ (k = 0 ↔ n = 0)) ∧ LTab f xs ∧ (0 ≤ r ∧ r ≤ 200) ∧ (f ≤ x ∧ x ≤ 150) ∧ (0 ≤ n ∧ n ≤ 120) ∧ x + n ≤ 150 ∧ cD r xs (x - f).toNat ≠ 0 := by
  obtain ⟨hc, hb, hn, xn, hd⟩ := anE_iff.1 h
  obtain ⟨ht, hr, x0, x1⟩ := coE_iff.1 hc
  simp only [Bool.and_eq_true] at hb
  exact ⟨hb.1, fitB_iff.1 hb.2, ht, hr, ⟨x0, x1⟩, hn, xn, hd⟩

/-- the numbers of an assurance without an error -/
theorem as_nums {r f : Int} {xs : List Int} {x n : Int} {B : Bool} {k : Int} (h : anE r f xs x (B && fitB k n) n = 0) : ∃ t d b : Int, asT r f xs k x n = t ∧ cD r xs (x - f).toNat = d ∧ asB r f xs k x n = b ∧ 0 ≤ t ∧ t ≤ d ∧ 1 ≤ d ∧ d ≤ 1000000000000000 ∧ d ≤ b ∧ b ≤ 152000000000000000 := by
  obtain ⟨-, ⟨-, hk⟩, ht, ⟨r0, -⟩, ⟨x0, -⟩, ⟨n0, -⟩, -, hd⟩ := as_in h
  obtain ⟨t0, t1, d1⟩ := ht.top r r0 k x n x0 n0
  obtain ⟨b0, b1⟩ := ht.bot r r0 k x n x0 n0 (fun h0 => by
    by_cases h2 : n = 0
    · exact absurd (hk.2 h2) h0
    · omega)
  have d0 := (ht.cD_bd r r0 (x - f).toNat).1
  exact ⟨_, _, _, rfl, rfl, rfl, t0, t1, by omega, d1, b0, b1⟩

theorem asE_true (r f : Int) (xs : List Int) (k x n : Int) : anE r f xs x (true && fitB k n) n = numE r f xs k x n := rfl

set_option maxHeartbeats 4000000 in
theorem slevel_any (r f : Int) (xs : List Int) (a : Option Addr) (l c : Nat) (k x n b : Int) (w : World) (h : Ints w a l xs) (hz : anE r f xs x (inB b 1 100000000 && fitB k n) n = 0) :
    Calls Tryz.prog 117 #[.agg #[.int .i64 f, .slice a l c], .int .i64 r, .int .i64 k, .int .i64 x, .int .i64 n, .int .i64 b] w fun e w' => e = .returned (.int .i64 (upV b (asT r f xs k x n) (asB r f xs k x n))) ∧ Below w.heap.size w w' := by
  have H := Lib.hid h
  have HZ := Lib.hid hz
  clear h hz
  obtain ⟨hB, -, ht, ⟨r0, r1⟩, ⟨x0, x1⟩, ⟨n0, n1⟩, xn, -⟩ := as_in HZ.out
  obtain ⟨f0, f1⟩ := ht.1
  obtain ⟨b0, b1⟩ := (inB_iff _ _ _).1 hB
  have CT : Hid (∀ W, Hid (Below w.heap.size w W) → Calls Tryz.prog 46 #[.agg #[.int .i64 f, .slice a l c], .int .i64 r, .int .i64 k, .int .i64 x, .int .i64 n] W fun e w' => e = .returned (.int .i64 (asT r f xs k x n)) ∧ Below W.heap.size W w') :=
    Lib.hid (fun W hW => stop_any r f xs a l c k x n W (H.out.on hW.out) ht r0 r1 x0 n0 n1 xn)
  have CB : Hid (∀ W, Hid (Below w.heap.size w W) → Calls Tryz.prog 63 #[.agg #[.int .i64 f, .slice a l c], .int .i64 r, .int .i64 k, .int .i64 x, .int .i64 n] W fun e w' => e = .returned (.int .i64 (asB r f xs k x n)) ∧ Below W.heap.size W w') :=
    Lib.hid (fun W hW => sbase_any r f xs a l c k x n W (H.out.on hW.out) ht r0 r1 x0 n0 n1 xn)
  obtain ⟨t, d, v, ht1, hd1, hv1, t0, t1, d0, d1, v0, v1⟩ := as_nums HZ.out
  rw [ht1] at CT ⊢
  rw [hv1] at CB ⊢
  clear ht1 hv1 hd1
  have CU := Lib.hid (fun W => sup_any b t v W (by omega) (by omega) (by omega) (by omega) (by omega) (by omega) (by have := quot_le b t v (by omega) (by omega) (by omega); omega))
  obtain ⟨u, hu⟩ : ∃ y_, upV b t v = y_ := ⟨_, rfl⟩
  rw [hu] at CU ⊢
  clear hu hB ht t0 t1 d0 d1 v0 v1
  go_enter Tryz.func117, Tryz.ntmps117
  go_wp2_with fail
  go_region_held3 (fun w' => w'.cell? ⟨w.heap.size, 0, none⟩ = some (.int .i64 f) ∧ w'.cell? ⟨w.heap.size, 1, none⟩ = some (.slice a l c) ∧ Hid (Below w.heap.size w w'))
      (first
        | (go_split_ands; exact ⟨by with_reducible assumption, by with_reducible assumption, by with_reducible assumption⟩)
        | (go_split_ands; exact ⟨by go_simp, by go_simp, Lib.hid (Below.drew (box_b _ _))⟩)
        | (go_split_ands; exact ⟨by go_simp, by go_simp, Lib.hid (box_b _ _)⟩)
        | (go_split_ands; exact ⟨cell_drew (by with_reducible assumption), cell_drew (by with_reducible assumption), Lib.hid (Below.drew (Hid.out (by with_reducible assumption)))⟩)
        | (go_split_ands; exact ⟨keep2 hb (by with_reducible assumption), keep2 hb (by with_reducible assumption), Lib.hid (Below.trans (Hid.out (by with_reducible assumption)) (Below.mono hb (Below.size (Hid.out (by with_reducible assumption)))))⟩)
        | fail)
      (first
        | (go_split_ands; go_at_call 46; ((with_reducible refine (CT.out _ (by with_reducible assumption)).mono ?_); rintro e w' ⟨rfl, hb⟩))
        | (go_split_ands; go_at_call 63; ((with_reducible refine (CB.out _ (by with_reducible assumption)).mono ?_); rintro e w' ⟨rfl, hb⟩))
        | (go_split_ands; go_at_call 45; ((with_reducible refine (CU.out _).mono ?_); rintro e w' ⟨rfl, rfl⟩))
        | fail)
  all_goals
    go_split_ands
    go_wp2_with fail
    go_ret
    exact ⟨rfl, Hid.out (by with_reducible assumption)⟩

end Go.Proofs.YtdlfofdibooidaaGreat

/- Lists of columns: the model's list and its four functions. -/
namespace Go.Proofs.YtdlfofdibooidaaGreat
open Go.ChangeShapes Go.WideShapes Go.ChangeAt Go.RowKit
set_option linter.unusedVariables false
set_option maxRecDepth 100000

/-- the first n values of a column -/
def colL (F : Nat → Int) (n : Nat) : List Int := (List.range n).map F

theorem colL_len (F : Nat → Int) (n : Nat) : (colL F n).length = n := by simp [colL]

theorem colL_snoc (F : Nat → Int) (n : Nat) : colL F (n + 1) = colL F n ++ [F n] := by simp [colL, List.range_succ]

theorem colL_get (F : Nat → Int) (n k : Nat) (h : k < n) : (colL F n).getD k 0 = F k := by simp [colL, List.getD, h]

theorem one_newC (w : World) (x : Int) : ∀ j u, [Value.int .i64 x][j]? = some u → (w.alloc (.cells #[.int .i64 x] 2)).cell? ((⟨w.heap.size, 0, none⟩ : Addr).add j) = some u := by
  intro j u hj
  match j, hj with
  | 0, hj => simp at hj; subst hj; simp [Addr.add]

theorem OwnI.on {base : Nat} {w w' : World} {v : Value} {xs : List Int} (h : OwnI base w v xs) (hb : Below w.heap.size w w') : OwnI base w' v xs :=
  h.same fun k _ hk => hb.block k hk

theorem own_tb {base : Nat} {w : World} {v : Value} {ys : List Int} (h : OwnI base w v ys) (hl : ys.length ≤ 4096) : ∃ a c, v = .slice a ys.length c ∧ TbR base w a ys.length ys := by
  have hh := h
  rcases h.2 with ⟨rfl, hn⟩ | ⟨g, cap, cur, rfl, hbg, hg, -⟩
  · refine ⟨none, 0, ?_, rfl, hl, .inl ⟨rfl, hn⟩⟩
    rw [hn]
  · exact ⟨_, cap, rfl, rfl, hl, .inr ⟨g, 0, rfl, hbg, (hh.lt g rfl).2, hh.row⟩⟩

theorem app_below {base : Nat} {wr w1 : World} {v : Value} {xs : List Int} {o : Obj} (hown : OwnI base wr v xs) (hbs : base ≤ wr.heap.size) (hg : (wr.alloc o).grownBy w1 v.ownBlock) : Below base wr w1 :=
  ((Below.refl _ _).alloc hbs o).grown hg (by simp; omega) fun k hk => (hown.lt k hk).1

/-- what the list of a column is: empty beside an error -/
def clY (F : Nat → Int) (r f : Int) (xs : List Int) : List Int := if coE r f xs f = 0 then colL F xs.length else []

theorem ls_cond {E : Int} {ys : List Int} {w w' : World} {v : Value} {base : Nat} (h : OwnI base w' v ys) (hl : ys.length ≤ 4096) (hb : Below w.heap.size w w') (hbs : w.heap.size ≤ base) (he : E = 0) {Y : List Int} (hY : Y = ys) :
    LsPost Y E w (.returned (.tuple #[v, .int .i64 0])) w' := by
  subst he; subst hY
  obtain ⟨a, c, rfl, ht⟩ := own_tb h hl
  exact ⟨a, _, c, rfl, ht.mono hbs, hb⟩

theorem ls_nil {E e : Int} {Y : List Int} {w w' : World} (hb : Below w.heap.size w w') (he : E = e) (hY : Y = []) : LsPost Y E w (.returned (.tuple #[.slice none 0 0, .int .i64 e])) w' := by
  subst he; subst hY
  exact ⟨none, 0, 0, rfl, ⟨rfl, by omega, .inl ⟨rfl, rfl⟩⟩, hb⟩

end Go.Proofs.YtdlfofdibooidaaGreat

/- AnnuityPrices of the model. -/
namespace Go.Proofs.YtdlfofdibooidaaGreat
open Go.ChangeShapes Go.WideShapes Go.ChangeAt Go.RowKit
set_option linter.unusedVariables false
set_option maxRecDepth 100000

/-- append at a step of a region that draws its order -/
theorem step_app {w : World} {ops : Array Oper} {o : Oper} {a : Act} {K : Act → World → Prop} {Q : Exit → Act → World → Prop} {E : Prop} (hgd : o.guard = none) (s x : Operand)
    (ho : o.op = .call { callee := .builtin .append, args := #[s, x], argTypes := #[24, 24] })
    (base : Nat) (v : Value) (xs : List Int) (y : Int) (hs : a.eval s = v) (hown : OwnI base w v xs) (ad : Addr) (hx : a.eval x = .slice (some ad) 1 1) (hc : ∀ j u, [Value.int .i64 y][j]? = some u → w.cell? (ad.add j) = some u)
    (hlen : xs.length ≤ 4096) (hbase : base ≤ w.heap.size)
    (h : ∀ v' w', OwnI base w' v' (xs ++ [y]) → w.grownBy w' v.ownBlock → (v'.ownBlock = v.ownBlock ∨ v'.ownBlock = some w.heap.size) → K (a.put o.dst v') w') :
    if Region.wanted o (yielded ops a.tmps) = true then Oper.wp Tryz.prog o a w K Q else E := by
  obtain ⟨i0, hi, hz0, hz1, hz2⟩ := info_parts infoI
  have hm : maxLen = maxLen := rfl
  unfold maxLen at hm
  obtain ⟨v', w', hr, h2, h3, h4⟩ := run_append_own (P := Tryz.prog) w base 24 o.type 2 i0 (.int .i64 0) 1 8 Tryz.underlying24 hi hz0 hz1 hz2 rfl (by decide) v xs.length (xs.map (Value.int .i64)) hown ad 1 1 [.int .i64 y] rfl hc (by intro u hu; simp at hu; subst hu; rfl) (by unfold maxLen; omega) (by omega) hbase
  have h5 := append_where ad y hown hc hlen hbase v' w' o.type hr
  have h6 : OwnI base w' v' (xs ++ [y]) := by
    unfold OwnI
    rw [List.length_append, List.length_singleton, List.map_append]
    exact h2
  have hw : Region.wanted o (yielded ops a.tmps) = true := by simp [Region.wanted, hgd]
  rw [if_pos hw]
  unfold Oper.wp execOp
  simp only [ho, resolve, invoke, builtin, Sem.run_bind, Sem.run_pure, Result.andThen_ok, List.map_toArray, List.map_cons, List.map_nil, hs, hx, hr]
  exact h v' w' h6 h3 h5

/-- are all columns D not 0 while lives are left? -/
def apB (r : Int) (xs : List Int) : Bool := (List.range (xs.length - 1)).all fun k => decide (cD r xs k ≠ 0)

def apE (r f : Int) (xs : List Int) (b : Int) : Int := if anE r f xs f (inB b 1 1000000) 0 = 0 then (if apB r xs = true then 0 else 5) else anE r f xs f (inB b 1 1000000) 0

def apF (r : Int) (xs : List Int) (b : Int) (k : Nat) : Int := upV b (cN r xs k) (cD r xs k)

def apY (r f : Int) (xs : List Int) (b : Int) : List Int := if apE r f xs b = 0 then colL (apF r xs b) (xs.length - 1) else []

theorem apB_no {r : Int} {xs : List Int} {j : Nat} (hj : j < xs.length - 1) (h : cD r xs j = 0) : apB r xs = false := by
  unfold apB
  rw [List.all_eq_false]
  exact ⟨j, by simpa using hj, by simp [h]⟩

theorem apB_yes {r : Int} {xs : List Int} (h : ∀ k, k < xs.length - 1 → cD r xs k ≠ 0) : apB r xs = true := by
  unfold apB
  rw [List.all_eq_true]
  intro k hk
  simpa using h k (by simpa using hk)

theorem apB_iff {r : Int} {xs : List Int} : apB r xs = true ↔ ∀ k, k < xs.length - 1 → cD r xs k ≠ 0 := by
  refine ⟨fun h k hk e => ?_, apB_yes⟩
  rw [apB_no hk e] at h; cases h

end Go.Proofs.YtdlfofdibooidaaGreat

/- Assurances: the model's natural premiums. -/
namespace Go.Proofs.YtdlfofdibooidaaGreat
open Go.ChangeShapes Go.WideShapes Go.ChangeAt Go.RowKit
set_option linter.unusedVariables false
set_option maxRecDepth 100000

/-- are n columns D from k on not 0? -/
def npB (r : Int) (xs : List Int) (k n : Nat) : Bool := (List.range n).all fun j => decide (cD r xs (k + j) ≠ 0)

def npE (r f : Int) (xs : List Int) (x n b : Int) : Int := if asE r f xs 1 x n b = 0 then (if npB r xs (x - f).toNat n.toNat = true then 0 else 5) else asE r f xs 1 x n b

def npF (r : Int) (xs : List Int) (b : Int) (k : Nat) (j : Nat) : Int := upV b (cC r xs (k + j)) (cD r xs (k + j))

def npY (r f : Int) (xs : List Int) (x n b : Int) : List Int := if npE r f xs x n b = 0 then colL (npF r xs b (x - f).toNat) n.toNat else []

theorem npB_no {r : Int} {xs : List Int} {k n j : Nat} (hj : j < n) (h : cD r xs (k + j) = 0) : npB r xs k n = false := by
  unfold npB
  rw [List.all_eq_false]
  exact ⟨j, by simpa using hj, by simp [h]⟩

theorem npB_yes {r : Int} {xs : List Int} {k n : Nat} (h : ∀ j, j < n → cD r xs (k + j) ≠ 0) : npB r xs k n = true := by
  unfold npB
  rw [List.all_eq_true]
  intro j hj
  simpa using h j (by simpa using hj)

theorem npB_iff {r : Int} {xs : List Int} {k n : Nat} : npB r xs k n = true ↔ ∀ j, j < n → cD r xs (k + j) ≠ 0 := by
  refine ⟨fun h j hj e => ?_, npB_yes⟩
  rw [npB_no hj e] at h; cases h

theorem LTab.cC_le {f : Int} {xs : List Int} (h : LTab f xs) (r : Int) (r0 : 0 ≤ r) (k : Nat) : 0 ≤ cC r xs k ∧ cC r xs k ≤ cD r xs k ∧ cD r xs k ≤ 1000000000000000 := by
  have e1 := h.cCD r r0 k
  have e2 := (h.cD_bd r r0 (k + 1)).1
  have e3 := (h.cC_bd r r0 k).1
  have e4 := (h.cD_bd r r0 k).2
  omega

end Go.Proofs.YtdlfofdibooidaaGreat

/- Rounding up: what is enough, what parts cost together; what a law on two tables and lists keeps. -/
namespace Go.Proofs.YtdlfofdibooidaaGreat
open Go.ChangeShapes Go.WideShapes Go.ChangeAt Go.RowKit
set_option linter.unusedVariables false

/-- rounded up: the least number that is enough -/
theorem upV_ceil (a b c : Int) (hc : 1 ≤ c) : a * b ≤ upV a b c * c ∧ upV a b c * c < a * b + c := by
  have h := Int.mul_ediv_add_emod (a * b) c
  have r0 := Int.emod_nonneg (a * b) (show c ≠ 0 by omega)
  have r1 := Int.emod_lt_of_pos (a * b) (show 0 < c by omega)
  rw [Int.mul_comm c] at h
  unfold upV
  obtain ⟨q, hq⟩ : ∃ y_, a * b / c = y_ := ⟨_, rfl⟩
  obtain ⟨r, hr⟩ : ∃ y_, a * b % c = y_ := ⟨_, rfl⟩
  obtain ⟨p, hp⟩ : ∃ y_, a * b = y_ := ⟨_, rfl⟩
  rw [hq, hr] at h ⊢
  rw [hr] at r0 r1
  rw [hp] at h ⊢
  rw [Int.add_mul]
  obtain ⟨t, ht⟩ : ∃ y_, q * c = y_ := ⟨_, rfl⟩
  rw [ht] at h ⊢
  by_cases hz : 0 < r
  · rw [if_pos hz]; omega
  · rw [if_neg hz]; omega

/-- two parts cost together what the whole costs, but for one -/
theorem up_parts (b U V c : Int) (hc : 1 ≤ c) : 0 ≤ upV b U c + upV b V c - upV b (U + V) c ∧ upV b U c + upV b V c - upV b (U + V) c ≤ 1 := by
  obtain ⟨a1, a2⟩ := upV_ceil b U c hc
  obtain ⟨b1, b2⟩ := upV_ceil b V c hc
  obtain ⟨c1, c2⟩ := upV_ceil b (U + V) c hc
  rw [Int.mul_add] at c1 c2
  obtain ⟨s, hs⟩ : ∃ s, upV b U c + upV b V c - upV b (U + V) c = s := ⟨_, rfl⟩
  have e : s * c = upV b U c * c + upV b V c * c - upV b (U + V) c * c := by rw [← hs, Int.sub_mul, Int.add_mul]
  rw [hs]
  have h1 : (-1) * c < s * c := by omega
  have h2 : s * c < 2 * c := by omega
  have h3 := Int.lt_of_mul_lt_mul_right h1 (by omega)
  have h4 := Int.lt_of_mul_lt_mul_right h2 (by omega)
  omega

/-- in the midst of a law on two tables and the lists that were handed over -/
structure FY (w : World) (T U : Nat) (F : Int) (ta : Option Addr) (tn tc : Nat) (xs : List Int) (G : Int) (ua : Option Addr) (un uc : Nat) (ys : List Int) (L : List (Option Addr × Nat × List Int)) (W : World) : Prop where
  low : Below w.heap.size w W
  c0 : W.cell? ⟨T, 0, none⟩ = some (.int .i64 F)
  c1 : W.cell? ⟨T, 1, none⟩ = some (.slice ta tn tc)
  d0 : W.cell? ⟨U, 0, none⟩ = some (.int .i64 G)
  d1 : W.cell? ⟨U, 1, none⟩ = some (.slice ua un uc)
  i1 : Ints W ta tn xs
  i2 : Ints W ua un ys
  ls : ∀ p ∈ L, Ints W p.1 p.2.1 p.2.2

theorem FY.step {w : World} {T U : Nat} {F : Int} {ta : Option Addr} {tn tc : Nat} {xs : List Int} {G : Int} {ua : Option Addr} {un uc : Nat} {ys : List Int} {L : List (Option Addr × Nat × List Int)} {W W' : World} (h : FY w T U F ta tn tc xs G ua un uc ys L W) (hb : Below W.heap.size W W') : FY w T U F ta tn tc xs G ua un uc ys L W' :=
  ⟨h.low.trans (hb.mono h.low.size), keep2 hb h.c0, keep2 hb h.c1, keep2 hb h.d0, keep2 hb h.d1, h.i1.on hb, h.i2.on hb, fun p hp => (h.ls p hp).on hb⟩

theorem FY.add {w : World} {T U : Nat} {F : Int} {ta : Option Addr} {tn tc : Nat} {xs : List Int} {G : Int} {ua : Option Addr} {un uc : Nat} {ys : List Int} {L : List (Option Addr × Nat × List Int)} {W W' : World} (h : FY w T U F ta tn tc xs G ua un uc ys L W) (hb : Below W.heap.size W W') (p : Option Addr × Nat × List Int) (hp : Ints W' p.1 p.2.1 p.2.2) : FY w T U F ta tn tc xs G ua un uc ys (p :: L) W' := by
  have g := h.step hb
  refine ⟨g.low, g.c0, g.c1, g.d0, g.d1, g.i1, g.i2, fun q hq => ?_⟩
  rcases List.mem_cons.1 hq with rfl | hq
  · exact hp
  · exact g.ls q hq

end Go.Proofs.YtdlfofdibooidaaGreat

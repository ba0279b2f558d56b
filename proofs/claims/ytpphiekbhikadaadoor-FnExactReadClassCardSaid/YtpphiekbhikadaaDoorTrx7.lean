/- Merged: ByAge, TabE, Col, Ann, Bxs, ColL, Till. -/
import Derived.Test.YtpphiekbhikadaaDoorTrx1
import Derived.Test.YtpphiekbhikadaaDoorTrx4
import Derived.Test.YtpphiekbhikadaaDoorTrx5
import Derived.Test.YtpphiekbhikadaaDoorTrx6
import Derived.Deep.WholeRow
import Derived.Deep.RegionLaw
import Derived.Laws.CopyOwn
import Derived.Deep.RegionHeld3

/- The lives by age, as an array of the program's. -/
namespace Go.Proofs.YtpphiekbhikadaaDoor
open Go.ChangeShapes Go.WideShapes Go.ChangeAt Go.RowKit
set_option linter.unusedVariables false
set_option maxRecDepth 100000
set_option maxRecDepth 100000

/-- the lives by age: 152 numbers, those of the table from its first age on -/
def byL (f : Int) (xs : List Int) : List Int := List.replicate f.toNat 0 ++ (xs ++ List.replicate (152 - (f.toNat + xs.length)) 0)

theorem byL_len (f : Int) (xs : List Int) (h : f.toNat + xs.length ≤ 152) : (byL f xs).length = 152 := by simp [byL]; omega

theorem byL_get (f : Int) (xs : List Int) (i : Nat) (h : f.toNat ≤ i) : (byL f xs).getD i 0 = xs.getD (i - f.toNat) 0 := by
  unfold byL
  rw [List.getD_eq_getElem?_getD, List.getElem?_append_right (by simpa using h), List.length_replicate, List.getD_eq_getElem?_getD]
  by_cases hi : i - f.toNat < xs.length
  · rw [List.getElem?_append_left hi]
  · rw [List.getElem?_append_right (by omega), List.getElem?_eq_none (l := xs) (by omega), List.getElem?_replicate]
    split <;> rfl

theorem LTab.fit {f : Int} {xs : List Int} (h : LTab f xs) : f.toNat + xs.length ≤ 151 := by
  have := h.1; have := h.2.2.1; omega

/-- the lives at an age, in the array -/
theorem LTab.by {f : Int} {xs : List Int} (h : LTab f xs) (x : Int) (hx : f ≤ x) : (byL f xs).getD x.toNat 0 = lvs f xs x := by
  have := h.1
  rw [byL_get _ _ _ (by omega)]
  unfold lvs
  congr 1; omega

theorem splice_by (f : Int) (xs : List Int) (h : f.toNat + xs.length ≤ 152) : splice (List.replicate 152 (Value.int .i64 0)) f.toNat (xs.map (Value.int .i64)) = (byL f xs).map (Value.int .i64) := by
  unfold splice byL
  simp only [List.take_replicate, List.drop_replicate, List.map_append, List.map_replicate, List.length_map]
  congr 2
  omega

/-- an array of 152 numbers -/
structure Arr (Zs : Array Value) (ys : List Int) : Prop where
  eq : Zs = (ys.map (Value.int .i64)).toArray
  len : ys.length = 152

theorem Arr.size {Zs : Array Value} {ys : List Int} (h : Arr Zs ys) : Zs.size = 152 := by rw [h.eq]; simp [h.len]

theorem Arr.one {Zs : Array Value} {ys : List Int} (h : Arr Zs ys) : Zs.all (·.oneCell') = true := by
  rw [h.eq, Array.all_eq_true_iff_forall_mem]
  intro v hv
  simp at hv
  obtain ⟨x, _, rfl⟩ := hv
  rfl

theorem Arr.get {Zs : Array Value} {ys : List Int} (h : Arr Zs ys) (i : Nat) (hi : i < 152) : Zs[i]? = some (.int .i64 (ys.getD i 0)) := by
  rw [h.eq]
  have := h.len
  simp [List.getD, show i < ys.length by omega]

def ByPost (f : Int) (xs : List Int) (w : World) (e : Ending) (w' : World) : Prop := ∃ Zs, e = .returned (.agg Zs) ∧ Arr Zs (byL f xs) ∧ Below w.heap.size w w'

end Go.Proofs.YtpphiekbhikadaaDoor

/- Fractions in lowest terms; who lives: what the calls return. | LivesAt, DeathsAt and SurvivalOf of the program: what the calls return. | SurvivalOf of the program and of its model: what the calls return. | SurvivalOf of the program: what the calls return. -/
namespace Go.Proofs.YtpphiekbhikadaaDoor
open Go.ChangeShapes Go.WideShapes Go.ChangeAt Go.RowKit
set_option linter.unusedVariables false
set_option maxRecDepth 100000
set_option maxRecDepth 100000

theorem gcdI_pos (a b : Int) (ha : 0 ≤ a) (hb : 1 ≤ b) : 1 ≤ gcdI a b := by
  unfold gcdI
  have : 0 < Nat.gcd a.toNat b.toNat := Nat.gcd_pos_of_pos_right _ (by omega)
  omega

theorem gcdI_ge (a b : Int) : 0 ≤ gcdI a b := by unfold gcdI; omega

theorem div_in (a g M : Int) (h0 : 0 ≤ a) (h1 : a ≤ M) (hg : 1 ≤ g) : 0 ≤ a / g ∧ a / g ≤ M := by
  have h2 := Int.ediv_nonneg h0 (show 0 ≤ g by omega)
  have h3 := Int.ediv_le_self g h0
  omega

/-! ### who lives -/

theorem LTab.dead {f : Int} {xs : List Int} (h : LTab f xs) (x : Int) (hx : f ≤ x) : lvs f xs x = 0 ↔ f + xs.length - 1 ≤ x := by
  constructor
  · intro h0
    by_cases hh : x + 1 < f + xs.length
    · have := h.lvs_pos x hh hx; omega
    · omega
  · intro h0; exact h.lvs_zero x (by omega)

/-- .. and no lives are left at the age -/
def clE (f : Int) (xs : List Int) (x y : Int) : Int := if chE f xs x y = 0 then (if lvs f xs x = 0 then 5 else 0) else chE f xs x y

theorem clE_n {f : Int} {xs : List Int} {x y : Int} (h : ¬ chE f xs x y = 0) : clE f xs x y = chE f xs x y := by simp [clE, h]

theorem clE_5 {f : Int} {xs : List Int} {x y : Int} (h : chE f xs x y = 0) (g : lvs f xs x = 0) : clE f xs x y = 5 := by simp [clE, h, g]

theorem clE_0 {f : Int} {xs : List Int} {x y : Int} (h : chE f xs x y = 0) (g : ¬ lvs f xs x = 0) : clE f xs x y = 0 := by simp [clE, h, g]

theorem clE_iff {f : Int} {xs : List Int} {x y : Int} : clE f xs x y = 0 ↔ LTab f xs ∧ (f ≤ x ∧ x ≤ 150) ∧ (0 ≤ y ∧ y ≤ 150) ∧ ¬ lvs f xs x = 0 := by
  unfold clE
  split
  · next h =>
    obtain ⟨h1, h2, h3⟩ := chE_iff.1 h
    split
    · next g => simp [g]
    · next g => simp [h1, h2, h3, g]
  · next h =>
    constructor
    · intro e; exact absurd e h
    · rintro ⟨a, b, c, _⟩; exact chE_iff.2 ⟨a, b, c⟩

theorem clE_code {f : Int} {xs : List Int} {x y : Int} (h : ¬ ageE f xs x = 0) : clE f xs x y = ageE f xs x := by
  have hn : ¬ chE f xs x y = 0 := fun e => h (ageE_iff.2 ⟨(chE_iff.1 e).1, (chE_iff.1 e).2.1⟩)
  rw [clE_n hn]
  unfold chE ageE
  unfold ageE at h
  simp only [inB_iff]
  split
  · next ht =>
    rw [if_pos ht] at h
    by_cases hh : f ≤ x ∧ x ≤ 150
    · exact absurd (if_pos hh) h
    · rw [if_neg hh, if_neg (fun e => hh e.1)]
  · rfl

theorem clE_2 {f : Int} {xs : List Int} {x y : Int} (h : ageE f xs x = 0) (g : ¬ inB y 0 150 = true) : clE f xs x y = 2 := by
  obtain ⟨a, b⟩ := ageE_iff.1 h
  have e : chE f xs x y = 2 := chE_2 (ltB_t a) (fun hh => g hh.2)
  rw [clE_n (by omega), e]

theorem chE_ok {f : Int} {xs : List Int} {x y : Int} (h : ageE f xs x = 0) (g : inB y 0 150 = true) : chE f xs x y = 0 := by
  obtain ⟨a, b⟩ := ageE_iff.1 h
  exact chE_iff.2 ⟨a, b, (inB_iff _ _ _).1 g⟩

/-- the share of the lives at an age that are left, in lowest terms -/
def svN (f : Int) (xs : List Int) (x y : Int) : Int := if clE f xs x y = 0 then lvs f xs (x + y) / gcdI (lvs f xs (x + y)) (lvs f xs x) else 0

def svD (f : Int) (xs : List Int) (x y : Int) : Int := if clE f xs x y = 0 then lvs f xs x / gcdI (lvs f xs (x + y)) (lvs f xs x) else 0

theorem sv_n {f : Int} {xs : List Int} {x y : Int} (h : ¬ clE f xs x y = 0) : svN f xs x y = 0 ∧ svD f xs x y = 0 := by simp [svN, svD, h]

theorem sv_0 {f : Int} {xs : List Int} {x y u v : Int} (h : clE f xs x y = 0) (hu : lvs f xs (x + y) = u) (hv : lvs f xs x = v) : svN f xs x y = u / gcdI u v ∧ svD f xs x y = v / gcdI u v := by
  simp [svN, svD, h, hu, hv]

theorem ret_iii {a b c d e f : Int} (h : a = b) (g : c = d) (k : e = f) : Ending.returned (.tuple #[.int .i64 a, .int .i64 c, .int .i64 e]) = .returned (.tuple #[.int .i64 b, .int .i64 d, .int .i64 f]) := by rw [h, g, k]

end Go.Proofs.YtpphiekbhikadaaDoor

/- Columns: their plain facts, and the model's functions. | Columns: the model's C, N and M. -/
namespace Go.Proofs.YtpphiekbhikadaaDoor
open Go.ChangeShapes Go.WideShapes Go.ChangeAt Go.RowKit
set_option linter.unusedVariables false
set_option maxRecDepth 100000

/-- the sum of n values of F, from k on -/
def fsum (F : Nat → Int) (k : Nat) : Nat → Int
  | 0 => 0
  | n + 1 => fsum F k n + F (k + n)

theorem fsum_head (F : Nat → Int) (k n : Nat) : fsum F k (n + 1) = F k + fsum F (k + 1) n := by
  induction n with
  | zero => simp [fsum]
  | succ n ih => rw [fsum, ih, fsum, show k + 1 + n = k + (n + 1) by omega]; omega

theorem fsum_bd (F : Nat → Int) (h : ∀ j, 0 ≤ F j ∧ F j ≤ 1000000000000000) (k n : Nat) : 0 ≤ fsum F k n ∧ fsum F k n ≤ n * 1000000000000000 := by
  induction n with
  | zero => simp [fsum]
  | succ n ih =>
    have := h (k + n)
    rw [fsum]
    omega

theorem fsum_more (F : Nat → Int) (L k n : Nat) (h : ∀ j, L ≤ j → F j = 0) (hn : L ≤ k + n) (d : Nat) : fsum F k (n + d) = fsum F k n := by
  induction d with
  | zero => rfl
  | succ d ih => rw [show n + (d + 1) = (n + d) + 1 by omega, fsum, ih, h _ (by omega)]; omega

theorem fsum_far (F : Nat → Int) (L k n m : Nat) (h : ∀ j, L ≤ j → F j = 0) (hn : L ≤ k + n) (hm : L ≤ k + m) : fsum F k n = fsum F k m := by
  by_cases hl : n ≤ m
  · obtain ⟨d, rfl⟩ : ∃ d, m = n + d := ⟨m - n, by omega⟩
    exact (fsum_more F L k n h hn d).symm
  · obtain ⟨d, rfl⟩ : ∃ d, n = m + d := ⟨n - m, by omega⟩
    exact fsum_more F L k m h hm d

/-- the columns, k years after the first age -/
def cD (r : Int) (xs : List Int) (k : Nat) : Int := xs.getD k 0 * disc r k
def cC (r : Int) (xs : List Int) (k : Nat) : Int := (xs.getD k 0 - xs.getD (k + 1) 0) * disc r (k + 1)
def cN (r : Int) (xs : List Int) (k : Nat) : Int := fsum (cD r xs) k 152
def cM (r : Int) (xs : List Int) (k : Nat) : Int := fsum (cC r xs) k 152

theorem prod_bd (u d : Int) (u0 : 0 ≤ u) (u1 : u ≤ 1000000) (d0 : 0 ≤ d) (d1 : d ≤ 1000000000) : 0 ≤ u * d ∧ u * d ≤ 1000000000000000 := by
  have a := Int.mul_le_mul u1 d1 d0 (by omega)
  have b := Int.mul_nonneg u0 d0
  omega

theorem LTab.cD_bd {f : Int} {xs : List Int} (h : LTab f xs) (r : Int) (r0 : 0 ≤ r) (k : Nat) : 0 ≤ cD r xs k ∧ cD r xs k ≤ 1000000000000000 := by
  obtain ⟨d0, d1⟩ := disc_bd r r0 k
  exact prod_bd _ _ (h.nonneg k) (h.le k) d0 d1

theorem LTab.cC_bd {f : Int} {xs : List Int} (h : LTab f xs) (r : Int) (r0 : 0 ≤ r) (k : Nat) : 0 ≤ cC r xs k ∧ cC r xs k ≤ 1000000000000000 := by
  obtain ⟨d0, d1⟩ := disc_bd r r0 (k + 1)
  have a := h.step k
  have b := h.le k
  have c := h.nonneg (k + 1)
  exact prod_bd _ _ (by omega) (by omega) d0 d1

theorem LTab.cD_far {f : Int} {xs : List Int} (h : LTab f xs) (r : Int) (k : Nat) (hk : xs.length - 1 ≤ k) : cD r xs k = 0 := by
  unfold cD; rw [h.last k (by omega)]; simp

theorem LTab.cC_far {f : Int} {xs : List Int} (h : LTab f xs) (r : Int) (k : Nat) (hk : xs.length - 1 ≤ k) : cC r xs k = 0 := by
  unfold cC; rw [h.last k (by omega), h.last (k + 1) (by omega)]; simp

theorem LTab.short {f : Int} {xs : List Int} (h : LTab f xs) : xs.length - 1 ≤ 119 := by have := h.2.1; omega

theorem LTab.cN_step {f : Int} {xs : List Int} (h : LTab f xs) (r : Int) (k : Nat) : cN r xs k = cN r xs (k + 1) + cD r xs k := by
  have hs := h.short
  unfold cN
  rw [fsum_far (cD r xs) (xs.length - 1) k 152 153 (h.cD_far r) (by omega) (by omega), fsum_head]
  omega

theorem LTab.cM_step {f : Int} {xs : List Int} (h : LTab f xs) (r : Int) (k : Nat) : cM r xs k = cM r xs (k + 1) + cC r xs k := by
  have hs := h.short
  unfold cM
  rw [fsum_far (cC r xs) (xs.length - 1) k 152 153 (h.cC_far r) (by omega) (by omega), fsum_head]
  omega

theorem LTab.cN_bd {f : Int} {xs : List Int} (h : LTab f xs) (r : Int) (r0 : 0 ≤ r) (k : Nat) : 0 ≤ cN r xs k ∧ cN r xs k ≤ 152000000000000000 := by
  have := fsum_bd (cD r xs) (h.cD_bd r r0) k 152
  unfold cN; omega

theorem LTab.cM_bd {f : Int} {xs : List Int} (h : LTab f xs) (r : Int) (r0 : 0 ≤ r) (k : Nat) : 0 ≤ cM r xs k ∧ cM r xs k ≤ 152000000000000000 := by
  have := fsum_bd (cC r xs) (h.cC_bd r r0) k 152
  unfold cM; omega

theorem LTab.cN_far {f : Int} {xs : List Int} (h : LTab f xs) (r : Int) (k : Nat) (hk : xs.length - 1 ≤ k) : cN r xs k = 0 := by
  unfold cN; rw [fsum_far (cD r xs) (xs.length - 1) k 152 0 (h.cD_far r) (by omega) (by omega)]; rfl

theorem LTab.cM_far {f : Int} {xs : List Int} (h : LTab f xs) (r : Int) (k : Nat) (hk : xs.length - 1 ≤ k) : cM r xs k = 0 := by
  unfold cM; rw [fsum_far (cC r xs) (xs.length - 1) k 152 0 (h.cC_far r) (by omega) (by omega)]; rfl

/-- a sum that ends with the table -/
theorem LTab.cN_end {f : Int} {xs : List Int} (h : LTab f xs) (r : Int) (k n : Nat) (hn : xs.length - 1 ≤ k + n) : cN r xs k = fsum (cD r xs) k n :=
  fsum_far _ (xs.length - 1) _ _ _ (h.cD_far r) (by have := h.short; omega) hn

theorem LTab.cM_end {f : Int} {xs : List Int} (h : LTab f xs) (r : Int) (k n : Nat) (hn : xs.length - 1 ≤ k + n) : cM r xs k = fsum (cC r xs) k n :=
  fsum_far _ (xs.length - 1) _ _ _ (h.cC_far r) (by have := h.short; omega) hn

/-- the code of a table, a rate and an age -/
def coE (r f : Int) (xs : List Int) (x : Int) : Int := if ltB f xs = true then (if (rateB r && inB x f 150) = true then 0 else 2) else 1

theorem coE_iff {r f : Int} {xs : List Int} {x : Int} : coE r f xs x = 0 ↔ LTab f xs ∧ (0 ≤ r ∧ r ≤ 200) ∧ f ≤ x ∧ x ≤ 150 := by
  unfold coE rateB; rw [← ltB_iff, ← inB_iff, ← inB_iff]
  cases ltB f xs <;> cases inB r 0 200 <;> cases inB x f 150 <;> simp

theorem fsum_step (F : Nat → Int) (h : ∀ j, 0 ≤ F j ∧ F j ≤ 1000000000000000) (k n : Nat) (hn : n ≤ 1000) : ∃ s d : Int, fsum F k n = s ∧ F (k + n) = d ∧ fsum F k (n + 1) = s + d ∧ 0 ≤ s ∧ s ≤ 1000000000000000000 ∧ 0 ≤ d ∧ d ≤ 1000000000000000 := by
  obtain ⟨h1, h2⟩ := h (k + n)
  obtain ⟨h3, h4⟩ := fsum_bd F h k n
  exact ⟨_, _, rfl, rfl, rfl, h3, by omega, h1, h2⟩

end Go.Proofs.YtpphiekbhikadaaDoor

/- Annuities: numbers, and the model's functions. | Annuities: the model's prices. (Written by wip/gen/annt.py.) -/
namespace Go.Proofs.YtpphiekbhikadaaDoor
open Go.ChangeShapes Go.WideShapes Go.ChangeAt Go.RowKit
set_option linter.unusedVariables false
set_option maxRecDepth 100000

/-- a product divided and rounded up -/
def upV (a b c : Int) : Int := a * b / c + (if 0 < a * b % c then 1 else 0)

theorem LTab.cD_le {f : Int} {xs : List Int} (h : LTab f xs) (r : Int) (r0 : 0 ≤ r) (k : Nat) : cD r xs (k + 1) ≤ cD r xs k :=
  Int.mul_le_mul (h.step k) (disc_le r r0 k) (disc_bd r r0 (k + 1)).1 (h.nonneg k)

theorem LTab.cD_mono {f : Int} {xs : List Int} (h : LTab f xs) (r : Int) (r0 : 0 ≤ r) (k n : Nat) : cD r xs (k + n) ≤ cD r xs k := by
  induction n with
  | zero => exact Int.le_refl _
  | succ n ih => exact Int.le_trans (h.cD_le r r0 (k + n)) ih

theorem LTab.cN_le {f : Int} {xs : List Int} (h : LTab f xs) (r : Int) (r0 : 0 ≤ r) (k : Nat) : cN r xs k ≤ 152 * cD r xs k := by
  have : ∀ n : Nat, fsum (cD r xs) k n ≤ n * cD r xs k := by
    intro n
    induction n with
    | zero => simp [fsum]
    | succ n ih =>
      rw [fsum]
      have := h.cD_mono r r0 k n
      rw [show ((n + 1 : Nat) : Int) * cD r xs k = (n : Int) * cD r xs k + cD r xs k by rw [Int.natCast_add, Int.add_mul]; omega]
      omega
  exact this 152

theorem LTab.cN_mono {f : Int} {xs : List Int} (h : LTab f xs) (r : Int) (r0 : 0 ≤ r) (k n : Nat) : cN r xs (k + n) ≤ cN r xs k := by
  induction n with
  | zero => exact Int.le_refl _
  | succ n ih =>
    have := h.cN_step r (k + n)
    have := (h.cD_bd r r0 (k + n)).1
    rw [show k + (n + 1) = k + n + 1 by omega]
    omega

theorem LTab.cN_ge {f : Int} {xs : List Int} (h : LTab f xs) (r : Int) (r0 : 0 ≤ r) (k : Nat) : cD r xs k ≤ cN r xs k := by
  have := h.cN_step r k
  have := (h.cN_bd r r0 (k + 1)).1
  omega

/-- a part of N, times an amount, over D -/
theorem LTab.quot {f : Int} {xs : List Int} (h : LTab f xs) (r : Int) (r0 : 0 ≤ r) (k : Nat) (u b : Int) (u0 : 0 ≤ u) (u1 : u ≤ cN r xs k) (hd : cD r xs k ≠ 0) (b0 : 0 ≤ b) (b1 : b ≤ 1000000) :
    u ≤ 1000000000000000000 ∧ 1 ≤ cD r xs k ∧ cD r xs k ≤ 1000000000000000000 ∧ b * u / cD r xs k ≤ 152000000 := by
  have e1 := (h.cN_bd r r0 k).2
  have e2 := h.cD_bd r r0 k
  have e3 := h.cN_le r r0 k
  refine ⟨by omega, by omega, by omega, ?_⟩
  have e4 : b * u ≤ b * (152 * cD r xs k) := Int.mul_le_mul_of_nonneg_left (by omega) b0
  have e5 : b * u / cD r xs k ≤ b * (152 * cD r xs k) / cD r xs k := Int.ediv_le_ediv (by omega) e4
  rw [← Int.mul_assoc, Int.mul_ediv_cancel _ hd] at e5
  omega

theorem upV_eq (a b c : Int) (hc : 1 ≤ c) : ∃ q r : Int, a * b / c = q ∧ a * b % c = r ∧ 0 ≤ r ∧ r < c ∧ (r = 0 → upV a b c = q) ∧ (0 < r → upV a b c = q + 1) := by
  refine ⟨_, _, rfl, rfl, Int.emod_nonneg _ (by omega), Int.emod_lt_of_pos _ (by omega), fun h => ?_, fun h => ?_⟩
  · unfold upV; rw [h]; simp
  · unfold upV; rw [if_pos h]

/-- the code of an annuity: b: is the amount right? -/
def anE (r f : Int) (xs : List Int) (x : Int) (b : Bool) (n : Int) : Int :=
  if coE r f xs x = 0 then (if b = true ∧ (0 ≤ n ∧ n ≤ 120) ∧ x + n ≤ 150 then (if cD r xs (x - f).toNat = 0 then 5 else 0) else 2) else coE r f xs x

theorem anE_iff {r f : Int} {xs : List Int} {x : Int} {b : Bool} {n : Int} : anE r f xs x b n = 0 ↔ coE r f xs x = 0 ∧ b = true ∧ (0 ≤ n ∧ n ≤ 120) ∧ x + n ≤ 150 ∧ cD r xs (x - f).toNat ≠ 0 := by
  unfold anE
  by_cases h1 : coE r f xs x = 0
  · by_cases h2 : b = true ∧ (0 ≤ n ∧ n ≤ 120) ∧ x + n ≤ 150
    · rw [if_pos h1, if_pos h2]
      by_cases h3 : cD r xs (x - f).toNat = 0
      · simp [h3]
      · simp [h3, h1, h2]
    · rw [if_pos h1, if_neg h2]
      constructor
      · intro h; omega
      · rintro ⟨_, a, b, c, _⟩; exact absurd ⟨a, b, c⟩ h2
  · rw [if_neg h1]
    constructor
    · intro h; exact absurd h h1
    · rintro ⟨h, _⟩; exact absurd h h1

theorem inB_no {x a b : Int} (h : ¬ (a ≤ x ∧ x ≤ b)) : inB x a b = false := by
  cases hc : inB x a b
  · rfl
  · exact absurd ((inB_iff _ _ _).1 hc) h

def lifeV (r f : Int) (xs : List Int) (x b : Int) : Int := if anE r f xs x (inB b 1 1000000) 0 = 0 then upV b (cN r xs (x - f).toNat) (cD r xs (x - f).toNat) else 0

def termV (r f : Int) (xs : List Int) (x b n : Int) : Int := if anE r f xs x (inB b 1 1000000) n = 0 then upV b (cN r xs (x - f).toNat - cN r xs (x + n - f).toNat) (cD r xs (x - f).toNat) else 0

def lateV (r f : Int) (xs : List Int) (x b n : Int) : Int := if anE r f xs x (inB b 1 1000000) n = 0 then upV b (cN r xs (x + n - f).toNat) (cD r xs (x - f).toNat) else 0

def sureV (r f : Int) (xs : List Int) (x b n : Int) : Int := if anE r f xs x (inB b 1 1000000) n = 0 then upV b (dsum r 0 n.toNat) 1000000000 + upV b (cN r xs (x + n - f).toNat) (cD r xs (x - f).toNat) else 0

def amtV (r f : Int) (xs : List Int) (x p : Int) : Int := if anE r f xs x (inB p 1 1000000000) 0 = 0 then p * cD r xs (x - f).toNat / cN r xs (x - f).toNat else 0

def IIPost (v E : Int) (w : World) (e : Ending) (w' : World) : Prop := e = .returned (.tuple #[.int .i64 v, .int .i64 E]) ∧ Below w.heap.size w w'

theorem cell_drew {w : World} {p : Addr} {v : Value} (h : w.cell? p = some v) : w.drew.cell? p = some v := h

/-- a part of N, n years later -/
theorem LTab.late {f : Int} {xs : List Int} (h : LTab f xs) (r : Int) (r0 : 0 ≤ r) (x n : Int) (x0 : f ≤ x) (n0 : 0 ≤ n) : 0 ≤ cN r xs (x + n - f).toNat ∧ cN r xs (x + n - f).toNat ≤ cN r xs (x - f).toNat := by
  refine ⟨(h.cN_bd r r0 _).1, ?_⟩
  have := h.cN_mono r r0 (x - f).toNat n.toNat
  rw [show (x - f).toNat + n.toNat = (x + n - f).toNat by omega] at this
  exact this

theorem upV_bd (a b c m : Int) (h0 : 0 ≤ a) (h1 : 0 ≤ b) (h2 : 1 ≤ c) (hq : a * b / c ≤ m) : 0 ≤ upV a b c ∧ upV a b c ≤ m + 1 := by
  have := Int.ediv_nonneg (Int.mul_nonneg h0 h1) (show 0 ≤ c by omega)
  unfold upV
  split <;> omega

theorem sure_q (r b : Int) (n : Int) (r0 : 0 ≤ r) (n0 : 0 ≤ n) (n1 : n ≤ 120) (b0 : 0 ≤ b) (b1 : b ≤ 1000000) : 0 ≤ dsum r 0 n.toNat ∧ dsum r 0 n.toNat ≤ 120000000000 ∧ b * dsum r 0 n.toNat / 1000000000 ≤ 120000000 := by
  obtain ⟨d0, d1⟩ := dsum_bd r r0 0 n.toNat
  refine ⟨d0, by omega, ?_⟩
  have e : b * dsum r 0 n.toNat ≤ 1000000 * 120000000000 := Int.mul_le_mul b1 (by omega) d0 (by omega)
  omega

end Go.Proofs.YtpphiekbhikadaaDoor

/- Boxes: blocks told by their values; the boxes of two tables. -/
namespace Go.Proofs.YtpphiekbhikadaaDoor
open Go.ChangeShapes Go.WideShapes Go.ChangeAt Go.RowKit
set_option linter.unusedVariables false

/-- a block of plain cells -/
def Bx (w : World) (B : Nat) (vs : List Value) : Prop := ∃ T, w.heap[B]? = some (.cells vs.toArray T (0, 0))

theorem Bx.two {w : World} {B : Nat} {x y : Value} (h : Bx w B [x, y]) : w.cell? ⟨B, 0, none⟩ = some x ∧ w.cell? ⟨B, 1, none⟩ = some y := by
  obtain ⟨T, h⟩ := h
  simp [World.cell?, h]

theorem Bx.four {w : World} {B : Nat} {x y z u : Value} (h : Bx w B [x, y, z, u]) : w.cell? ⟨B, 0, none⟩ = some x ∧ w.cell? ⟨B, 1, none⟩ = some y ∧ w.cell? ⟨B, 2, none⟩ = some z ∧ w.cell? ⟨B, 3, none⟩ = some u := by
  obtain ⟨T, h⟩ := h
  simp [World.cell?, h]

theorem Bx.free {w : World} {B : Nat} {vs : List Value} (h : Bx w B vs) (i : Nat) : w.frozen? ⟨B, i, none⟩ = false := by
  obtain ⟨T, h⟩ := h
  simp [World.frozen?, h]

theorem Bx.lt {w : World} {B : Nat} {vs : List Value} (h : Bx w B vs) : B < w.heap.size := by
  obtain ⟨T, h⟩ := h
  by_cases hb : B < w.heap.size
  · exact hb
  · have : w.heap[B]? = none := by simp; omega
    rw [this] at h; cases h

theorem Bx.same {w w' : World} {B : Nat} {vs : List Value} (h : Bx w B vs) (hb : w'.heap[B]? = w.heap[B]?) : Bx w' B vs := by
  obtain ⟨T, h⟩ := h
  exact ⟨T, by rw [hb, h]⟩

theorem Bx.on {w w' : World} {B : Nat} {vs : List Value} (h : Bx w B vs) (hb : Below w.heap.size w w') : Bx w' B vs := h.same (hb.block _ h.lt)

theorem Bx.new (w : World) (vs : List Value) (T : TypeId) : Bx (w.alloc (.cells vs.toArray T)) w.heap.size vs := ⟨T, heap_alloc_new _ _⟩

/-- the boxes of two tables -/
structure K2 (w : World) (f : Int) (sa : Value) (g : Int) (sb : Value) (W : World) : Prop where
  t0 : W.cell? ⟨w.heap.size, 0, none⟩ = some (.int .i64 f)
  t1 : W.cell? ⟨w.heap.size, 1, none⟩ = some sa
  u0 : W.cell? ⟨w.heap.size + 1, 0, none⟩ = some (.int .i64 g)
  u1 : W.cell? ⟨w.heap.size + 1, 1, none⟩ = some sb
  low : Below w.heap.size w W

theorem K2.on {w : World} {f : Int} {sa : Value} {g : Int} {sb : Value} {W W' : World} (h : K2 w f sa g sb W) (hb : Below W.heap.size W W') : K2 w f sa g sb W' :=
  ⟨keep2 hb h.t0, keep2 hb h.t1, keep2 hb h.u0, keep2 hb h.u1, h.low.trans (hb.mono h.low.size)⟩

theorem K2.new (w : World) (f : Int) (sa : Value) (g : Int) (sb : Value) (T U : TypeId) : K2 w f sa g sb ((w.alloc (.cells #[.int .i64 f, sa] T)).alloc (.cells #[.int .i64 g, sb] U)) := by
  have h1 := Bx.new w [.int .i64 f, sa] T
  have h2 := Bx.new (w.alloc (.cells #[.int .i64 f, sa] T)) [.int .i64 g, sb] U
  have h3 := h1.on (box_b (w.alloc (.cells #[.int .i64 f, sa] T)) (.cells #[.int .i64 g, sb] U))
  rw [World.size_alloc] at h2
  exact ⟨h3.two.1, h3.two.2, h2.two.1, h2.two.2, (box_b _ _).alloc (by simp) _⟩

theorem k2S {w : World} {f : Int} {sa : Value} {g : Int} {sb : Value} {W : World} (h : K2 w f sa g sb W) :
    W.cell? ⟨w.heap.size, 0, none⟩ = some (.int .i64 f) ∧ W.cell? ⟨w.heap.size, 1, none⟩ = some sa ∧ W.cell? ⟨w.heap.size + 1, 0, none⟩ = some (.int .i64 g) ∧ W.cell? ⟨w.heap.size + 1, 1, none⟩ = some sb ∧ Hid (K2 w f sa g sb W) := ⟨h.t0, h.t1, h.u0, h.u1, Lib.hid h⟩

theorem K2.drew {w : World} {f : Int} {sa : Value} {g : Int} {sb : Value} {W : World} (h : K2 w f sa g sb W) : K2 w f sa g sb W.drew := ⟨cell_drew h.t0, cell_drew h.t1, cell_drew h.u0, cell_drew h.u1, h.low.drew⟩

theorem K2.rb {w : World} {f : Int} {sa : Value} {g : Int} {sb : Value} (T U V : TypeId) (vs : List Value) : K2 w f sa g sb (((w.alloc (.cells #[.int .i64 f, sa] T)).alloc (.cells #[.int .i64 g, sb] U)).alloc (.cells vs.toArray V)) ∧ Bx (((w.alloc (.cells #[.int .i64 f, sa] T)).alloc (.cells #[.int .i64 g, sb] U)).alloc (.cells vs.toArray V)) (w.heap.size + 2) vs := by
  have h1 := K2.new w f sa g sb T U
  have h2 := Bx.new ((w.alloc (.cells #[.int .i64 f, sa] T)).alloc (.cells #[.int .i64 g, sb] U)) vs V
  rw [World.size_alloc, World.size_alloc] at h2
  exact ⟨h1.on (box_b _ _), h2⟩

end Go.Proofs.YtpphiekbhikadaaDoor

/- Lists of columns: the model's list and its four functions. -/
namespace Go.Proofs.YtpphiekbhikadaaDoor
open Go.ChangeShapes Go.WideShapes Go.ChangeAt Go.RowKit
set_option linter.unusedVariables false
set_option maxRecDepth 100000

/-- the first n values of a column -/
def colL (F : Nat → Int) (n : Nat) : List Int := (List.range n).map F

theorem colL_len (F : Nat → Int) (n : Nat) : (colL F n).length = n := by simp [colL]

theorem colL_snoc (F : Nat → Int) (n : Nat) : colL F (n + 1) = colL F n ++ [F n] := by simp [colL, List.range_succ]

theorem colL_get (F : Nat → Int) (n k : Nat) (h : k < n) : (colL F n).getD k 0 = F k := by simp [colL, List.getD, h]

theorem one_newC (w : World) (x : Int) : ∀ j u, [Value.int .i64 x][j]? = some u → (w.alloc (.cells #[.int .i64 x] 2)).cell? ((⟨w.heap.size, 0, none⟩ : Addr).add j) = some u := by
  intro j u hj
  match j, hj with
  | 0, hj => simp at hj; subst hj; simp [Addr.add]

theorem OwnI.on {base : Nat} {w w' : World} {v : Value} {xs : List Int} (h : OwnI base w v xs) (hb : Below w.heap.size w w') : OwnI base w' v xs :=
  h.same fun k _ hk => hb.block k hk

theorem own_tb {base : Nat} {w : World} {v : Value} {ys : List Int} (h : OwnI base w v ys) (hl : ys.length ≤ 4096) : ∃ a c, v = .slice a ys.length c ∧ TbR base w a ys.length ys := by
  have hh := h
  rcases h.2 with ⟨rfl, hn⟩ | ⟨g, cap, cur, rfl, hbg, hg, -⟩
  · refine ⟨none, 0, ?_, rfl, hl, .inl ⟨rfl, hn⟩⟩
    rw [hn]
  · exact ⟨_, cap, rfl, rfl, hl, .inr ⟨g, 0, rfl, hbg, (hh.lt g rfl).2, hh.row⟩⟩

theorem app_below {base : Nat} {wr w1 : World} {v : Value} {xs : List Int} {o : Obj} (hown : OwnI base wr v xs) (hbs : base ≤ wr.heap.size) (hg : (wr.alloc o).grownBy w1 v.ownBlock) : Below base wr w1 :=
  ((Below.refl _ _).alloc hbs o).grown hg (by simp; omega) fun k hk => (hown.lt k hk).1

/-- what the list of a column is: empty beside an error -/
def clY (F : Nat → Int) (r f : Int) (xs : List Int) : List Int := if coE r f xs f = 0 then colL F xs.length else []

theorem ls_cond {E : Int} {ys : List Int} {w w' : World} {v : Value} {base : Nat} (h : OwnI base w' v ys) (hl : ys.length ≤ 4096) (hb : Below w.heap.size w w') (hbs : w.heap.size ≤ base) (he : E = 0) {Y : List Int} (hY : Y = ys) :
    LsPost Y E w (.returned (.tuple #[v, .int .i64 0])) w' := by
  subst he; subst hY
  obtain ⟨a, c, rfl, ht⟩ := own_tb h hl
  exact ⟨a, _, c, rfl, ht.mono hbs, hb⟩

theorem ls_nil {E e : Int} {Y : List Int} {w w' : World} (hb : Below w.heap.size w w') (he : E = e) (hY : Y = []) : LsPost Y E w (.returned (.tuple #[.slice none 0 0, .int .i64 e])) w' := by
  subst he; subst hY
  exact ⟨none, 0, 0, rfl, ⟨rfl, by omega, .inl ⟨rfl, rfl⟩⟩, hb⟩

end Go.Proofs.YtpphiekbhikadaaDoor

/- A region that draws its order, whose last operation L stores into a cell that the region has loaded: a condition that holds till then; append at a step of such a region; boxes behind stores. -/
namespace Go.Proofs.YtpphiekbhikadaaDoor
open Go.ChangeShapes Go.WideShapes Go.ChangeAt Go.RowKit
set_option linter.unusedVariables false
set_option maxRecDepth 100000

/-- append at a step of a region that draws its order -/
theorem step_apj {w : World} {ops : Array Oper} {o : Oper} {a : Act} {K : Act → World → Prop} {Q : Exit → Act → World → Prop} {E : Prop} (hgd : o.guard = none) (s x : Operand)
    (ho : o.op = .call { callee := .builtin .append, args := #[s, x], argTypes := #[24, 24] })
    (base : Nat) (v : Value) (xs : List Int) (y : Int) (hs : a.eval s = v) (hown : OwnI base w v xs) (ad : Addr) (hx : a.eval x = .slice (some ad) 1 1) (hc : ∀ j u, [Value.int .i64 y][j]? = some u → w.cell? (ad.add j) = some u)
    (hlen : xs.length ≤ 4096) (hbase : base ≤ w.heap.size)
    (h : ∀ v' w', OwnI base w' v' (xs ++ [y]) → w.grownBy w' v.ownBlock → (v'.ownBlock = v.ownBlock ∨ v'.ownBlock = some w.heap.size) → K (a.put o.dst v') w') :
    if Region.wanted o (yielded ops a.tmps) = true then Oper.wp Tryd.prog o a w K Q else E := by
  obtain ⟨i0, hi, hz0, hz1, hz2⟩ := info_parts infoI
  have hm : maxLen = maxLen := rfl
  unfold maxLen at hm
  obtain ⟨v', w', hr, h2, h3, h4⟩ := run_append_own (P := Tryd.prog) w base 24 o.type 2 i0 (.int .i64 0) 1 8 Tryd.underlying24 hi hz0 hz1 hz2 rfl (by decide) v xs.length (xs.map (Value.int .i64)) hown ad 1 1 [.int .i64 y] rfl hc (by intro u hu; simp at hu; subst hu; rfl) (by unfold maxLen; omega) (by omega) hbase
  have h5 := append_where ad y hown hc hlen hbase v' w' o.type hr
  have h6 : OwnI base w' v' (xs ++ [y]) := by
    unfold OwnI
    rw [List.length_append, List.length_singleton, List.map_append]
    exact h2
  have hw : Region.wanted o (yielded ops a.tmps) = true := by simp [Region.wanted, hgd]
  rw [if_pos hw]
  unfold Oper.wp execOp
  simp only [ho, resolve, invoke, builtin, Sem.run_bind, Sem.run_pure, Result.andThen_ok, List.map_toArray, List.map_cons, List.map_nil, hs, hx, hr]
  exact h v' w' h6 h3 h5

theorem far_setCell (w : World) (p : Addr) (v : Value) (k : Nat) (h : k ≠ p.block) : (w.setCell p v).heap[k]? = w.heap[k]? := by
  show (w.heap.modify p.block _)[k]? = _
  rw [Array.getElem?_modify, if_neg (fun e => h e.symm)]

theorem Bx.set1 {w : World} {B : Nat} {x y : Value} (h : Bx w B [x, y]) (z : Value) : Bx (w.setCell ⟨B, 1, none⟩ z) B [x, z] := by
  have hl := h.lt
  obtain ⟨T, h⟩ := h
  rw [Array.getElem?_eq_getElem hl] at h
  have h' : w.heap[B] = .cells #[x, y] T (0, 0) := by simpa using h
  refine ⟨T, ?_⟩
  show (w.heap.modify B _)[B]? = _
  rw [Array.getElem?_modify, if_pos rfl, Array.getElem?_eq_getElem hl, h']
  simp

/-- behind an append: the boxes of the joint table are as they were -/
theorem Bx.grown {w w5 : World} {o : Obj} {B : Nat} {vs : List Value} {row : Option Nat} (h : Bx w B vs) (hg : (w.alloc o).grownBy w5 row) (hn : some B ≠ row) : Bx w5 B vs :=
  (h.on (box_b w o)).same (hg.block B (by have := h.lt; simp; omega) hn)

/-- in whatever order, and S behind each operation but L -/
def wpTill (Pg : Program) (md : Region.Mode) (ops : Array Oper) (Q : Exit → Act → World → Prop) (S : World → Prop) (L : Nat) : Nat → Array Bool → Act → World → Prop
  | 0, listed, a, w => Region.ready md ops listed = [] ∧ Q .normal a w
  | n + 1, listed, a, w => (Region.ready md ops listed = [] → Q .normal a w) ∧ ∀ i ∈ Region.ready md ops listed, wpOp Pg ops Q i (fun a' w' => (i ≠ L → S w') ∧ wpTill Pg md ops Q S L n (listed.setIfInBounds i true) a' w') a w

section
variable {Pg : Program} {ops : Array Oper} {Q : Exit → Act → World → Prop} {md : Region.Mode} {S : World → Prop} {L : Nat}

theorem wpTill_any : ∀ (n : Nat) (listed : Array Bool) (a : Act) (w : World), wpTill Pg md ops Q S L n listed a w → wpAny Pg md ops Q n listed a w
  | 0, _, _, _, h => h
  | n + 1, _, _, _, h => ⟨h.1, fun i hi => wpOp_mono (fun a' w' h' => wpTill_any n _ a' w' h'.2) (h.2 i hi)⟩

theorem wpTill_done {listed : Array Bool} {a : Act} {w : World} (hr : Region.ready md ops listed = []) (h : Q .normal a w) : ∀ n, wpTill Pg md ops Q S L n listed a w
  | 0 => ⟨hr, h⟩
  | _ + 1 => ⟨fun _ => h, by rw [hr]; simp⟩

theorem wpTill_start {id : Nat} {a : Act} {w : World} (hm : Pg.follows .mixedOrders = true) (hS : S w.drew)
    (h : S w.drew → wpTill Pg .any ops Q S L ops.size (Array.replicate ops.size false) a w.drew) : (Code.region id ops true).wp Pg Q a w :=
  wp_region_any hm (wpTill_any _ _ _ _ (h hS))

/-- does j wait for i, at n removes? -/
def reaches (md : Region.Mode) (ops : Array Oper) : Nat → Nat → Nat → Bool
  | 0, _, _ => false
  | n + 1, j, i => match ops[j]? with
    | some o => o.after.any fun e => Region.binds md e && (e.on == i || reaches md ops n e.on i)
    | none => false

/-- what has come up has all that it waits for behind it -/
def Closed (md : Region.Mode) (ops : Array Oper) (listed : Array Bool) : Prop := ∀ j o, ops[j]? = some o → listed.getD j false = true → ∀ e ∈ o.after, Region.binds md e = true → listed.getD e.on false = true

def closedB (md : Region.Mode) (ops : Array Oper) (listed : Array Bool) : Bool := (List.range ops.size).all fun j => !listed.getD j false || match ops[j]? with
  | some o => o.after.all fun e => !Region.binds md e || listed.getD e.on false
  | none => true

theorem closed_of {listed : Array Bool} (h : closedB md ops listed = true) : Closed md ops listed := by
  intro j o ho hj e he hb
  unfold closedB at h
  rw [List.all_eq_true] at h
  have h1 := h j (List.mem_range.2 (Array.getElem?_eq_some_iff.1 ho).1)
  rw [ho, hj] at h1
  simp only [Bool.not_true, Bool.false_or, Array.all_eq_true_iff_forall_mem] at h1
  have h2 := h1 e he
  rw [hb] at h2
  simpa using h2

theorem Closed.set {listed : Array Bool} (h : Closed md ops listed) {i : Nat} (hi : i ∈ Region.ready md ops listed) : Closed md ops (listed.setIfInBounds i true) := by
  intro j o ho hj e he hb
  by_cases hji : i = j
  · subst hji
    obtain ⟨_, o', ho', hall⟩ := mem_ready.1 hi
    rw [ho] at ho'
    cases ho'
    exact getD_set_true (hall e he hb)
  · rw [getD_set_ne false hji] at hj
    exact getD_set_true (h j o ho hj e he hb)

theorem Closed.reach {listed : Array Bool} (h : Closed md ops listed) : ∀ (n j i : Nat), (∀ o, ops[j]? = some o → ∀ e ∈ o.after, Region.binds md e = true → listed.getD e.on false = true) → reaches md ops n j i = true → listed.getD i false = true
  | 0, _, _, _, hr => by simp [reaches] at hr
  | n + 1, j, i, hd, hr => by
    unfold reaches at hr
    split at hr
    · rename_i o ho
      simp only [Array.any_eq_true, Bool.and_eq_true, Bool.or_eq_true, beq_iff_eq] at hr
      obtain ⟨k, hk, hb, he⟩ := hr
      have h1 := hd o ho _ (Array.getElem_mem hk) hb
      rcases he with he | he
      · rw [← he]; exact h1
      · exact h.reach n _ i (fun o' ho' e' he' hb' => h _ o' ho' h1 e' he' hb') he
    · cases hr

theorem waits {n i : Nat} {listed : Array Bool} (hc : Closed md ops listed) (hw : reaches md ops n L i = true) (hi : listed.getD i true = false) (hL : L ∈ Region.ready md ops listed) : False := by
  obtain ⟨_, o, ho, hall⟩ := mem_ready.1 hL
  have h1 := hc.reach n L i (fun o' ho' e he hb => by rw [ho] at ho'; cases ho'; exact hall e he hb) hw
  rcases Nat.lt_or_ge i listed.size with h' | h'
  · simp [h'] at hi h1; rw [hi] at h1; cases h1
  · simp [Array.getElem?_eq_none h'] at h1

theorem wpTill_first {i : Nat} {oi : Oper} {v : Value} (hi : ops[i]? = some oi) (hsel : ∀ (j : Nat) (o : Oper) cs b, ops[j]? = some o → o.op ≠ .select cs b)
    (hQ : ∀ c a w, Q (.panic c) (a.put oi.dst v) w → Q (.panic c) a w) {m : Nat} (hw : reaches md ops m L i = true) :
    ∀ (n : Nat) (listed : Array Bool) (a : Act) (w : World), Closed md ops listed →
      (∀ j oj, ops[j]? = some oj → j ≠ i → listed.getD j true = false → (∀ e ∈ oj.after, Region.binds md e = true → e.on ≠ i) → oi.apart ops oj = true) →
      i ∈ Region.ready md ops listed → YieldsIf Pg ops S oi v a → S w →
      wpTill Pg md ops Q S L n (listed.setIfInBounds i true) (a.put oi.dst v) w → wpTill Pg md ops Q S L (n + 1) listed a w := by
  intro n
  induction n with
  | zero =>
    intro listed a w _ _ hr hy hS H
    refine ⟨fun h => (by rw [h] at hr; cases hr), fun j hj => ?_⟩
    by_cases hji : j = i
    · subst hji; exact hy.wpOp hi hS ⟨fun _ => hS, H⟩
    · have := ready_mono hj hji
      rw [H.1] at this
      cases this
  | succ n ih =>
    intro listed a w hcl hfree hr hy hS H
    refine ⟨fun h => (by rw [h] at hr; cases hr), fun j hj => ?_⟩
    by_cases hji : j = i
    · subst hji; exact hy.wpOp hi hS ⟨fun _ => hS, H⟩
    · have hi0 := (mem_ready.1 hr).1
      have hjL : j ≠ L := fun e => by subst e; exact waits hcl hw hi0 hj
      obtain ⟨hjun, oj, hoj, hall⟩ := mem_ready.1 hj
      have hnot : ∀ e ∈ oj.after, Region.binds md e = true → e.on ≠ i := fun e he hb heq => by
        have h1 := hall e he hb
        rw [heq] at h1
        rcases Nat.lt_or_ge i listed.size with h' | h'
        · simp [h'] at hi0 h1; rw [hi0] at h1; cases h1
        · simp [Array.getElem?_eq_none h'] at h1
      have h2 := wpOp_putIf hoj (hfree j oj hoj hji hjun hnot) (fun cs b => hsel i oi cs b hi) (fun cs b => hsel j oj cs b hoj) hQ hy (H.2 j (ready_mono hj hji))
      refine wpOp_mono (fun a' w' h3 => ⟨h3.2.1, ih (listed.setIfInBounds j true) a' w' (hcl.set hj) (fun k ok hk hki hun hno => ?_) (ready_mono hr (Ne.symm hji)) h3.1 (h3.2.1 hjL) ?_⟩) h2
      · refine hfree k ok hk hki ?_ hno
        by_cases hjk : j = k
        · subst hjk; exact hjun
        · rw [getD_set_ne true hjk] at hun; exact hun
      · rw [Array.setIfInBounds_comm _ _ hji]
        exact h3.2.2

theorem wpTill_take {i : Nat} {oi : Oper} {v : Value} {n : Nat} {listed : Array Bool} {a : Act} {w : World} (hi : ops[i]? = some oi)
    (hs : Region.noSelect ops = true) (hf : Region.free md ops listed i = true) (hr : (Region.ready md ops listed).contains i = true) (hc : closedB md ops listed = true) (hw : reaches md ops 12 L i = true)
    (hQ : ∀ c a w, Q (.panic c) (a.put oi.dst v) w → Q (.panic c) a w) (hy : YieldsIf Pg ops S oi v a) (hS : S w)
    (h : wpTill Pg md ops Q S L n (listed.setIfInBounds i true) (a.put oi.dst v) w) : wpTill Pg md ops Q S L (n + 1) listed a w :=
  wpTill_first hi (Region.noSelect_spec hs) hQ hw n listed a w (closed_of hc) (Region.free_spec hi hf) (by simpa using hr) hy hS h

/-- those that may come up next -/
def AllTill (Pg : Program) (md : Region.Mode) (ops : Array Oper) (Q : Exit → Act → World → Prop) (S : World → Prop) (L n : Nat) (listed : Array Bool) (a : Act) (w : World) (rs : List Nat) : Prop :=
  ∀ i ∈ rs, wpOp Pg ops Q i (fun a' w' => (i ≠ L → S w') ∧ wpTill Pg md ops Q S L n (listed.setIfInBounds i true) a' w') a w

theorem AllTill.nil {n : Nat} {listed : Array Bool} {a : Act} {w : World} : AllTill Pg md ops Q S L n listed a w [] := fun _ h => by cases h

theorem AllTill.cons {n : Nat} {listed : Array Bool} {a : Act} {w : World} {i : Nat} {o : Oper} {rs : List Nat} (ho : ops[i]? = some o)
    (h : ∀ K' : Act → World → Prop, Shut (∀ a w, (i ≠ L → S w) → ((i ≠ L → S w) → wpTill Pg md ops Q S L n (listed.setIfInBounds i true) a w) → K' a w) → if Region.wanted o (yielded ops a.tmps) = true then Oper.wp Pg o a w K' Q else K' (a.put o.dst undef) w)
    (hs : AllTill Pg md ops Q S L n listed a w rs) : AllTill Pg md ops Q S L n listed a w (i :: rs) := fun j hj => by
  rcases List.mem_cons.1 hj with rfl | hj
  · exact wpOp_step ho (fun K' hK => h K' (fun a w hS hW => hK a w ⟨hS, hW hS⟩))
  · exact hs j hj

theorem wpTill_ready {rs : List Nat} {n : Nat} {listed : Array Bool} {a : Act} {w : World} (hr : Region.ready md ops listed = rs) (hne : rs ≠ [])
    (h : AllTill Pg md ops Q S L n listed a w rs) : wpTill Pg md ops Q S L (n + 1) listed a w :=
  ⟨fun h0 => absurd (hr ▸ h0) hne, hr ▸ h⟩

end

end Go.Proofs.YtpphiekbhikadaaDoor

/- Life tables as lists of numbers: what the walks say of them (no program in it). | Whether a life table is one: what both functions return; codes of a table and an age. | Whether a life table is one: what the program's function returns. -/
import Derived.Test.YtmnddplkmljeaaaNums
namespace Go.Proofs.Ytmnddplkmljeaaa
set_option linter.unusedVariables false
set_option maxRecDepth 100000

/-- (f, xs) is a life table -/
def LTab (f : Int) (xs : List Int) : Prop :=
  (0 ≤ f ∧ f ≤ 100) ∧ (2 ≤ xs.length ∧ xs.length ≤ 120) ∧ f + (xs.length : Int) ≤ 151 ∧ (1 ≤ xs.getD 0 0 ∧ xs.getD 0 0 ≤ 1000000) ∧ xs.getD (xs.length - 1) 0 = 0 ∧
  ∀ i, i < xs.length → 1 ≤ i → xs.getD i 0 ≤ xs.getD (i - 1) 0 ∧ (i + 1 < xs.length → 1 ≤ xs.getD i 0)

def ltB (f : Int) (xs : List Int) : Bool :=
  decide ((0 ≤ f ∧ f ≤ 100) ∧ (2 ≤ xs.length ∧ xs.length ≤ 120) ∧ f + (xs.length : Int) ≤ 151 ∧ (1 ≤ xs.getD 0 0 ∧ xs.getD 0 0 ≤ 1000000) ∧ xs.getD (xs.length - 1) 0 = 0 ∧
  ∀ i, i < xs.length → 1 ≤ i → xs.getD i 0 ≤ xs.getD (i - 1) 0 ∧ (i + 1 < xs.length → 1 ≤ xs.getD i 0))

theorem ltB_iff (f : Int) (xs : List Int) : ltB f xs = true ↔ LTab f xs := by
  unfold ltB LTab; rw [decide_eq_true_iff]

theorem ltB_t {f : Int} {xs : List Int} (h : LTab f xs) : ltB f xs = true := (ltB_iff _ _).2 h

theorem ltB_f {f : Int} {xs : List Int} (h : ¬ LTab f xs) : ltB f xs = false := by
  rw [Bool.eq_false_iff]; exact fun hh => h ((ltB_iff _ _).1 hh)

theorem getD_far (xs : List Int) (i : Nat) (h : xs.length ≤ i) : xs.getD i 0 = 0 := by
  simp [List.getD, h]

theorem LTab.last {f : Int} {xs : List Int} (h : LTab f xs) (i : Nat) (hi : xs.length ≤ i + 1) : xs.getD i 0 = 0 := by
  obtain ⟨_, ⟨h2, _⟩, _, _, h5, _⟩ := h
  by_cases he : i + 1 = xs.length
  · rw [← h5]; congr 1; omega
  · exact getD_far _ _ (by omega)

theorem LTab.pos {f : Int} {xs : List Int} (h : LTab f xs) (i : Nat) (hi : i + 1 < xs.length) : 1 ≤ xs.getD i 0 := by
  obtain ⟨_, _, _, h4, _, h6⟩ := h
  by_cases h0 : i = 0
  · subst h0; exact h4.1
  · exact (h6 i (by omega) (by omega)).2 hi

theorem LTab.nonneg {f : Int} {xs : List Int} (h : LTab f xs) (i : Nat) : 0 ≤ xs.getD i 0 := by
  by_cases hi : i + 1 < xs.length
  · have := h.pos i hi; omega
  · rw [h.last i (by omega)]; omega

theorem LTab.step {f : Int} {xs : List Int} (h : LTab f xs) (i : Nat) : xs.getD (i + 1) 0 ≤ xs.getD i 0 := by
  by_cases hi : i + 1 < xs.length
  · have := (h.2.2.2.2.2 (i + 1) hi (by omega)).1
    simpa using this
  · rw [h.last (i + 1) (by omega)]; exact h.nonneg i

theorem LTab.mono {f : Int} {xs : List Int} (h : LTab f xs) (i j : Nat) (hij : i ≤ j) : xs.getD j 0 ≤ xs.getD i 0 := by
  induction j with
  | zero => obtain rfl : i = 0 := by omega
            exact Int.le_refl _
  | succ j ih =>
    by_cases he : i = j + 1
    · subst he; exact Int.le_refl _
    · exact Int.le_trans (h.step j) (ih (by omega))

theorem LTab.le {f : Int} {xs : List Int} (h : LTab f xs) (i : Nat) : xs.getD i 0 ≤ 1000000 := by
  have := h.mono 0 i (by omega)
  have := h.2.2.2.1.2
  omega

/-- the lives at an age from the first one on -/
def lvs (f : Int) (xs : List Int) (x : Int) : Int := xs.getD (x - f).toNat 0

theorem LTab.lvs_zero {f : Int} {xs : List Int} (h : LTab f xs) (x : Int) (hx : f + xs.length ≤ x + 1) : lvs f xs x = 0 := h.last _ (by omega)

theorem LTab.lvs_bd {f : Int} {xs : List Int} (h : LTab f xs) (x : Int) : 0 ≤ lvs f xs x ∧ lvs f xs x ≤ 1000000 := ⟨h.nonneg _, h.le _⟩

theorem LTab.lvs_pos {f : Int} {xs : List Int} (h : LTab f xs) (x : Int) (hx : x + 1 < f + xs.length) (hf : f ≤ x) : 1 ≤ lvs f xs x := h.pos _ (by omega)

theorem LTab.lvs_mono {f : Int} {xs : List Int} (h : LTab f xs) (x y : Int) (hx : x ≤ y) : lvs f xs y ≤ lvs f xs x := h.mono _ _ (by omega)

/-! ### the codes -/


/-- the code of a table and an age -/
def ageE (f : Int) (xs : List Int) (x : Int) : Int := if ltB f xs = true then (if f ≤ x ∧ x ≤ 150 then 0 else 2) else 1

theorem ageE_1 {f : Int} {xs : List Int} {x : Int} (h : ltB f xs = false) : ageE f xs x = 1 := by simp [ageE, h]

theorem ageE_2 {f : Int} {xs : List Int} {x : Int} (h : ltB f xs = true) (g : ¬ (f ≤ x ∧ x ≤ 150)) : ageE f xs x = 2 := by simp [ageE, h, g]

theorem ageE_0 {f : Int} {xs : List Int} {x : Int} (h : ltB f xs = true) (g : f ≤ x ∧ x ≤ 150) : ageE f xs x = 0 := by simp [ageE, h, g]

theorem ageE_iff {f : Int} {xs : List Int} {x : Int} : ageE f xs x = 0 ↔ LTab f xs ∧ f ≤ x ∧ x ≤ 150 := by
  unfold ageE; rw [← ltB_iff]
  split
  · next h => split <;> simp_all
  · next h => simp [h]

/-- the lives at an age, and 0 beside an error -/
def laV (f : Int) (xs : List Int) (x : Int) : Int := if ageE f xs x = 0 then lvs f xs x else 0

/-- the deaths at an age, and 0 beside an error -/
def daV (f : Int) (xs : List Int) (x : Int) : Int := if ageE f xs x = 0 then lvs f xs x - lvs f xs (x + 1) else 0

/-! ### sums -/

theorem take_sum_succ (ys : List Int) (k : Nat) : (ys.take (k + 1)).sum = (ys.take k).sum + ys.getD k 0 := by
  rw [List.take_add_one, List.sum_append]
  cases h : ys[k]? <;> simp [List.getD, h]

/-- the lives at all later ages -/
def laterSum (f : Int) (xs : List Int) (x : Int) : Int := (xs.drop ((x - f).toNat + 1)).sum

theorem getD_drop (xs : List Int) (d k : Nat) : (xs.drop d).getD k 0 = xs.getD (d + k) 0 := by simp [List.getD]

/-- the sum of the lives at the ages x + 1, .., x + k -/
def partSum (f : Int) (xs : List Int) (x : Int) (k : Nat) : Int := ((xs.drop ((x - f).toNat + 1)).take k).sum

theorem partSum_zero (f : Int) (xs : List Int) (x : Int) : partSum f xs x 0 = 0 := by simp [partSum]

theorem partSum_succ (f : Int) (xs : List Int) (x : Int) (k : Nat) (hx : f ≤ x) : partSum f xs x (k + 1) = partSum f xs x k + lvs f xs (x + 1 + k) := by
  unfold partSum lvs
  rw [take_sum_succ, getD_drop]
  congr 2; omega

theorem partSum_all (f : Int) (xs : List Int) (x : Int) (k : Nat) (h : xs.length ≤ (x - f).toNat + 1 + k) : partSum f xs x k = laterSum f xs x := by
  unfold partSum laterSum
  rw [List.take_of_length_le (by simp; omega)]

theorem LTab.partSum_end {f : Int} {xs : List Int} (h : LTab f xs) (x : Int) (k : Nat) (hk : xs.length ≤ (x - f).toNat + 1 + k + 1) (hx : f ≤ x) : partSum f xs x k = laterSum f xs x := by
  rw [← partSum_all f xs x (k + 1) (by omega), partSum_succ _ _ _ _ hx, h.lvs_zero _ (by omega)]; simp

theorem LTab.partSum_bd {f : Int} {xs : List Int} (h : LTab f xs) (x : Int) (hx : f ≤ x) (k : Nat) : 0 ≤ partSum f xs x k ∧ partSum f xs x k ≤ k * 1000000 := by
  induction k with
  | zero => rw [partSum_zero]; omega
  | succ k ih =>
    rw [partSum_succ _ _ _ _ hx]
    have := h.lvs_bd (x + 1 + k)
    omega

/-! ### the middle age -/

/-- the least age from x on, looked for n times, at which at most half of L are left -/
def midF (f : Int) (xs : List Int) (L : Int) : Nat → Int → Int
  | 0, x => x
  | n + 1, x => if 2 * lvs f xs x ≤ L then x else midF f xs L n (x + 1)

def mdV (f : Int) (xs : List Int) (x : Int) : Int := midF f xs (lvs f xs x) 200 x

theorem midF_eq (f : Int) (xs : List Int) (L : Int) : ∀ (n : Nat) (x m : Int), x ≤ m → m < x + n → 2 * lvs f xs m ≤ L → (∀ y, x ≤ y → y < m → ¬ 2 * lvs f xs y ≤ L) → midF f xs L n x = m := by
  intro n
  induction n with
  | zero => intro x m h1 h2; omega
  | succ n ih =>
    intro x m h1 h2 h3 h4
    unfold midF
    by_cases hxm : x = m
    · subst hxm; rw [if_pos h3]
    · rw [if_neg (h4 x (Int.le_refl _) (by omega))]
      exact ih (x + 1) m (by omega) (by omega) h3 fun y hy hm => h4 y (by omega) hm

theorem LTab.mid {f : Int} {xs : List Int} (h : LTab f xs) (x m : Int) (hf : f ≤ x) (hx : x ≤ m) (hm : m ≤ 151) (h3 : 2 * lvs f xs m ≤ lvs f xs x) (h4 : ∀ y, x ≤ y → y < m → ¬ 2 * lvs f xs y ≤ lvs f xs x) : mdV f xs x = m := by
  have := h.1
  exact midF_eq _ _ _ _ _ _ hx (by omega) h3 h4

/-! ### made tables -/

/-- a number divided by 1000, rounded up -/
def up1000 (a : Int) : Int := -(-a / 1000)

/-- the lives that are left from year to year -/
def mkL (l : Int) : List Int → List Int
  | [] => if 0 < l then [l, 0] else [l]
  | r :: rs => if 0 < l then l :: mkL (l - up1000 (l * r)) rs else [l]

theorem up_bd (l r : Int) (hl : 0 ≤ l) (h0 : 0 ≤ r) (h1 : r ≤ 1000) : 0 ≤ up1000 (l * r) ∧ up1000 (l * r) ≤ l := by
  have a := Int.mul_le_mul_of_nonneg_left h1 hl
  have b := Int.mul_nonneg hl h0
  unfold up1000
  omega

theorem mul_bd (l r : Int) (hl : 0 ≤ l) (hl2 : l ≤ 1000000) (h0 : 0 ≤ r) (h1 : r ≤ 1000) : 0 ≤ l * r ∧ l * r ≤ 1000000000 := by
  have a := Int.mul_le_mul hl2 h1 h0 (by omega)
  have b := Int.mul_nonneg hl h0
  omega

theorem mkL_len (rs : List Int) : ∀ l : Int, 1 ≤ (mkL l rs).length ∧ (mkL l rs).length ≤ rs.length + 2 := by
  induction rs with
  | nil => intro l; unfold mkL; split <;> simp
  | cons r rs ih =>
    intro l; unfold mkL; split
    · have := ih (l - up1000 (l * r)); simp; omega
    · simp

theorem mkL_head (rs : List Int) (l : Int) : (mkL l rs).getD 0 0 = l := by
  cases rs <;> (unfold mkL; split <;> simp)

theorem mkL_two (rs : List Int) (l : Int) (h : 0 < l) : 2 ≤ (mkL l rs).length := by
  cases rs with
  | nil => unfold mkL; simp [h]
  | cons r rs => unfold mkL; rw [if_pos h]; have := (mkL_len rs (l - up1000 (l * r))).1; simp; omega

theorem getD_cons_succ (x : Int) (xs : List Int) (i : Nat) : (x :: xs).getD (i + 1) 0 = xs.getD i 0 := by simp [List.getD]

/-- all that a table asks of its lives, from l on -/
theorem mkL_good (rs : List Int) (hr : ∀ r ∈ rs, 0 ≤ r ∧ r ≤ 1000) : ∀ l : Int, 0 ≤ l →
    (mkL l rs).getD ((mkL l rs).length - 1) 0 = 0 ∧ (∀ i, i < (mkL l rs).length → 1 ≤ i → (mkL l rs).getD i 0 ≤ (mkL l rs).getD (i - 1) 0) ∧ (∀ i, i + 1 < (mkL l rs).length → 1 ≤ (mkL l rs).getD i 0) := by
  induction rs with
  | nil =>
    intro l hl
    unfold mkL; split
    · next h =>
      refine ⟨by simp, ?_, ?_⟩
      · intro i hi h1
        obtain rfl : i = 1 := by simp at hi; omega
        simp; omega
      · intro i hi
        obtain rfl : i = 0 := by simp at hi; omega
        simp; omega
    · next h =>
      obtain rfl : l = 0 := by omega
      refine ⟨by simp, ?_, ?_⟩
      · intro i hi h1; simp at hi; omega
      · intro i hi; simp at hi
  | cons r rs ih =>
    intro l hl
    obtain ⟨r0, r1⟩ := hr r List.mem_cons_self
    have ub := up_bd l r hl r0 r1
    obtain ⟨i1, i2, i3⟩ := ih (fun q hq => hr q (List.mem_cons_of_mem _ hq)) (l - up1000 (l * r)) (by omega)
    have hd := mkL_head rs (l - up1000 (l * r))
    have hlen := (mkL_len rs (l - up1000 (l * r))).1
    unfold mkL; split
    · next h =>
      generalize mkL (l - up1000 (l * r)) rs = ys at *
      refine ⟨?_, ?_, ?_⟩
      · rw [List.length_cons, show ys.length + 1 - 1 = (ys.length - 1) + 1 by omega, getD_cons_succ]; exact i1
      · intro i hi h1
        obtain ⟨j, rfl⟩ : ∃ j, i = j + 1 := ⟨i - 1, by omega⟩
        rw [getD_cons_succ]
        by_cases hj : j = 0
        · subst hj; simp at hd ⊢; omega
        · obtain ⟨q, rfl⟩ : ∃ q, j = q + 1 := ⟨j - 1, by omega⟩
          rw [show q + 1 + 1 - 1 = q + 1 by omega, getD_cons_succ]
          have := i2 (q + 1) (by simp at hi; omega) (by omega)
          simpa using this
      · intro i hi
        cases i with
        | zero => simp; omega
        | succ j => rw [getD_cons_succ]; exact i3 j (by simp at hi; omega)
    · next h =>
      obtain rfl : l = 0 := by omega
      refine ⟨by simp, ?_, ?_⟩
      · intro i hi h1; simp at hi; omega
      · intro i hi; simp at hi

theorem mkL_tab (f l : Int) (rs : List Int) (hf0 : 0 ≤ f) (hf1 : f ≤ 100) (hl0 : 1 ≤ l) (hl1 : l ≤ 1000000) (hn : rs.length ≤ 118) (hn2 : (rs.length : Int) ≤ 149 - f) (hr : ∀ r ∈ rs, 0 ≤ r ∧ r ≤ 1000) : LTab f (mkL l rs) := by
  obtain ⟨g1, g2, g3⟩ := mkL_good rs hr l (by omega)
  obtain ⟨n1, n2⟩ := mkL_len rs l
  have n3 := mkL_two rs l (by omega)
  have hd := mkL_head rs l
  refine ⟨⟨hf0, hf1⟩, ⟨n3, by omega⟩, by omega, by rw [hd]; omega, g1, fun i hi h1 => ⟨g2 i hi h1, g3 i⟩⟩

/-- one more year: the deaths are the rate's part, rounded up -/
theorem mkL_deaths (rs : List Int) : ∀ (l : Int) (i : Nat), i < rs.length → 0 < (mkL l rs).getD i 0 → (mkL l rs).getD i 0 - (mkL l rs).getD (i + 1) 0 = up1000 ((mkL l rs).getD i 0 * rs.getD i 0) := by
  induction rs with
  | nil => intro l i hi; simp at hi
  | cons r rs ih =>
    intro l i hi
    unfold mkL; split
    · next h =>
      cases i with
      | zero => intro _; rw [getD_cons_succ, mkL_head]; simp; omega
      | succ j => rw [getD_cons_succ, getD_cons_succ, getD_cons_succ]; exact ih _ j (by simpa using hi)
    · next h =>
      intro hp
      exfalso
      cases i with
      | zero => simp at hp; omega
      | succ j => simp at hp

/-- k years on, still alive: what has been laid and what is to come -/
theorem mkL_split (rs : List Int) (l c : Int) (pre : List Int) (k : Nat) (h : pre ++ mkL c (rs.drop k) = mkL l rs) (hk : k < rs.length) (hc : 0 < c) : (pre ++ [c]) ++ mkL (c - up1000 (c * rs.getD k 0)) (rs.drop (k + 1)) = mkL l rs := by
  rw [← h, List.drop_eq_getElem_cons hk]
  show _ = pre ++ mkL c (rs[k] :: rs.drop (k + 1))
  rw [mkL, if_pos hc]
  simp [List.getD, hk]

theorem mkL_stop (rs : List Int) : mkL 0 rs = [0] := by cases rs <;> simp [mkL]

open Go.ChangeShapes Go.WideShapes Go.ChangeAt Go.RowKit

theorem Ints.on {w w1 : World} {a : Option Addr} {l : Nat} {xs : List Int} (h : Ints w a l xs) (hb : Below w.heap.size w w1) : Ints w1 a l xs := h.below hb h.lt

/-- a number of the list, in its cell -/
theorem Ints.at {w : World} {a : Option Addr} {l : Nat} {xs : List Int} (h : Ints w a l xs) (hl : 0 < l) : ∃ b off, a = some ⟨b, off, none⟩ ∧ b < w.heap.size ∧ ∀ i, i < l → w.cell? ⟨b, off + i, none⟩ = some (.int .i64 (xs.getD i 0)) := by
  rcases h.cells with h0 | ⟨b, off, rfl, hc⟩
  · omega
  · exact ⟨b, off, rfl, block_lt (hc 0 hl), hc⟩

theorem ltB_no {f : Int} {xs : List Int} (h : ltB f xs = true → False) : ltB f xs = false := by
  rw [Bool.eq_false_iff]; exact h

open Go.ChangeShapes Go.WideShapes Go.ChangeAt Go.RowKit

end Go.Proofs.Ytmnddplkmljeaaa

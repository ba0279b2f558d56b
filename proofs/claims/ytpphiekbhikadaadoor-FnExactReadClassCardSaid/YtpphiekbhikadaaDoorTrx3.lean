/- Merged: Tab, Src. -/
import Derived.Test.YtpphiekbhikadaaDoorTrx1

/- Life tables as lists of numbers: what the walks say of them (no program in it). | Whether a life table is one: what both functions return; codes of a table and an age. | Whether a life table is one: what the program's function returns. -/
namespace Go.Proofs.YtpphiekbhikadaaDoor
set_option linter.unusedVariables false
set_option maxRecDepth 100000
set_option maxRecDepth 100000

/-- (f, xs) is a life table -/
def LTab (f : Int) (xs : List Int) : Prop :=
  (0 ≤ f ∧ f ≤ 100) ∧ (2 ≤ xs.length ∧ xs.length ≤ 120) ∧ f + (xs.length : Int) ≤ 151 ∧ (1 ≤ xs.getD 0 0 ∧ xs.getD 0 0 ≤ 1000000) ∧ xs.getD (xs.length - 1) 0 = 0 ∧
  ∀ i, i < xs.length → 1 ≤ i → xs.getD i 0 ≤ xs.getD (i - 1) 0 ∧ (i + 1 < xs.length → 1 ≤ xs.getD i 0)

def ltB (f : Int) (xs : List Int) : Bool :=
  decide ((0 ≤ f ∧ f ≤ 100) ∧ (2 ≤ xs.length ∧ xs.length ≤ 120) ∧ f + (xs.length : Int) ≤ 151 ∧ (1 ≤ xs.getD 0 0 ∧ xs.getD 0 0 ≤ 1000000) ∧ xs.getD (xs.length - 1) 0 = 0 ∧
  ∀ i, i < xs.length → 1 ≤ i → xs.getD i 0 ≤ xs.getD (i - 1) 0 ∧ (i + 1 < xs.length → 1 ≤ xs.getD i 0))

theorem ltB_iff (f : Int) (xs : List Int) : ltB f xs = true ↔ LTab f xs := by
  unfold ltB LTab; rw [decide_eq_true_iff]

theorem ltB_t {f : Int} {xs : List Int} (h : LTab f xs) : ltB f xs = true := (ltB_iff _ _).2 h

theorem ltB_f {f : Int} {xs : List Int} (h : ¬ LTab f xs) : ltB f xs = false := by
  rw [Bool.eq_false_iff]; exact fun hh => h ((ltB_iff _ _).1 hh)

theorem getD_far (xs : List Int) (i : Nat) (h : xs.length ≤ i) : xs.getD i 0 = 0 := by
  simp [List.getD, h]

theorem LTab.last {f : Int} {xs : List Int} (h : LTab f xs) (i : Nat) (hi : xs.length ≤ i + 1) : xs.getD i 0 = 0 := by
  obtain ⟨_, ⟨h2, _⟩, _, _, h5, _⟩ := h
  by_cases he : i + 1 = xs.length
  · rw [← h5]; congr 1; omega
  · exact getD_far _ _ (by omega)

theorem LTab.pos {f : Int} {xs : List Int} (h : LTab f xs) (i : Nat) (hi : i + 1 < xs.length) : 1 ≤ xs.getD i 0 := by
  obtain ⟨_, _, _, h4, _, h6⟩ := h
  by_cases h0 : i = 0
  · subst h0; exact h4.1
  · exact (h6 i (by omega) (by omega)).2 hi

theorem LTab.nonneg {f : Int} {xs : List Int} (h : LTab f xs) (i : Nat) : 0 ≤ xs.getD i 0 := by
  by_cases hi : i + 1 < xs.length
  · have := h.pos i hi; omega
  · rw [h.last i (by omega)]; omega

theorem LTab.step {f : Int} {xs : List Int} (h : LTab f xs) (i : Nat) : xs.getD (i + 1) 0 ≤ xs.getD i 0 := by
  by_cases hi : i + 1 < xs.length
  · have := (h.2.2.2.2.2 (i + 1) hi (by omega)).1
    simpa using this
  · rw [h.last (i + 1) (by omega)]; exact h.nonneg i

theorem LTab.mono {f : Int} {xs : List Int} (h : LTab f xs) (i j : Nat) (hij : i ≤ j) : xs.getD j 0 ≤ xs.getD i 0 := by
  induction j with
  | zero => obtain rfl : i = 0 := by omega
            exact Int.le_refl _
  | succ j ih =>
    by_cases he : i = j + 1
    · subst he; exact Int.le_refl _
    · exact Int.le_trans (h.step j) (ih (by omega))

theorem LTab.le {f : Int} {xs : List Int} (h : LTab f xs) (i : Nat) : xs.getD i 0 ≤ 1000000 := by
  have := h.mono 0 i (by omega)
  have := h.2.2.2.1.2
  omega

/-- the lives at an age from the first one on -/
def lvs (f : Int) (xs : List Int) (x : Int) : Int := xs.getD (x - f).toNat 0

theorem LTab.lvs_zero {f : Int} {xs : List Int} (h : LTab f xs) (x : Int) (hx : f + xs.length ≤ x + 1) : lvs f xs x = 0 := h.last _ (by omega)

theorem LTab.lvs_bd {f : Int} {xs : List Int} (h : LTab f xs) (x : Int) : 0 ≤ lvs f xs x ∧ lvs f xs x ≤ 1000000 := ⟨h.nonneg _, h.le _⟩

theorem LTab.lvs_pos {f : Int} {xs : List Int} (h : LTab f xs) (x : Int) (hx : x + 1 < f + xs.length) (hf : f ≤ x) : 1 ≤ lvs f xs x := h.pos _ (by omega)

theorem LTab.lvs_mono {f : Int} {xs : List Int} (h : LTab f xs) (x y : Int) (hx : x ≤ y) : lvs f xs y ≤ lvs f xs x := h.mono _ _ (by omega)

/-! ### the codes -/


/-- the code of a table and an age -/
def ageE (f : Int) (xs : List Int) (x : Int) : Int := if ltB f xs = true then (if f ≤ x ∧ x ≤ 150 then 0 else 2) else 1

theorem ageE_1 {f : Int} {xs : List Int} {x : Int} (h : ltB f xs = false) : ageE f xs x = 1 := by simp [ageE, h]

theorem ageE_2 {f : Int} {xs : List Int} {x : Int} (h : ltB f xs = true) (g : ¬ (f ≤ x ∧ x ≤ 150)) : ageE f xs x = 2 := by simp [ageE, h, g]

theorem ageE_0 {f : Int} {xs : List Int} {x : Int} (h : ltB f xs = true) (g : f ≤ x ∧ x ≤ 150) : ageE f xs x = 0 := by simp [ageE, h, g]

theorem ageE_iff {f : Int} {xs : List Int} {x : Int} : ageE f xs x = 0 ↔ LTab f xs ∧ f ≤ x ∧ x ≤ 150 := by
  unfold ageE; rw [← ltB_iff]
  split
  · next h => split <;> simp_all
  · next h => simp [h]

/-- the lives at an age, and 0 beside an error -/
def laV (f : Int) (xs : List Int) (x : Int) : Int := if ageE f xs x = 0 then lvs f xs x else 0

/-- the deaths at an age, and 0 beside an error -/
def daV (f : Int) (xs : List Int) (x : Int) : Int := if ageE f xs x = 0 then lvs f xs x - lvs f xs (x + 1) else 0

/-! ### sums -/

theorem take_sum_succ (ys : List Int) (k : Nat) : (ys.take (k + 1)).sum = (ys.take k).sum + ys.getD k 0 := by
  rw [List.take_add_one, List.sum_append]
  cases h : ys[k]? <;> simp [List.getD, h]

/-- the lives at all later ages -/
def laterSum (f : Int) (xs : List Int) (x : Int) : Int := (xs.drop ((x - f).toNat + 1)).sum

theorem getD_drop (xs : List Int) (d k : Nat) : (xs.drop d).getD k 0 = xs.getD (d + k) 0 := by simp [List.getD]

/-- the sum of the lives at the ages x + 1, .., x + k -/
def partSum (f : Int) (xs : List Int) (x : Int) (k : Nat) : Int := ((xs.drop ((x - f).toNat + 1)).take k).sum

theorem partSum_zero (f : Int) (xs : List Int) (x : Int) : partSum f xs x 0 = 0 := by simp [partSum]

theorem partSum_succ (f : Int) (xs : List Int) (x : Int) (k : Nat) (hx : f ≤ x) : partSum f xs x (k + 1) = partSum f xs x k + lvs f xs (x + 1 + k) := by
  unfold partSum lvs
  rw [take_sum_succ, getD_drop]
  congr 2; omega

theorem partSum_all (f : Int) (xs : List Int) (x : Int) (k : Nat) (h : xs.length ≤ (x - f).toNat + 1 + k) : partSum f xs x k = laterSum f xs x := by
  unfold partSum laterSum
  rw [List.take_of_length_le (by simp; omega)]

theorem LTab.partSum_end {f : Int} {xs : List Int} (h : LTab f xs) (x : Int) (k : Nat) (hk : xs.length ≤ (x - f).toNat + 1 + k + 1) (hx : f ≤ x) : partSum f xs x k = laterSum f xs x := by
  rw [← partSum_all f xs x (k + 1) (by omega), partSum_succ _ _ _ _ hx, h.lvs_zero _ (by omega)]; simp

theorem LTab.partSum_bd {f : Int} {xs : List Int} (h : LTab f xs) (x : Int) (hx : f ≤ x) (k : Nat) : 0 ≤ partSum f xs x k ∧ partSum f xs x k ≤ k * 1000000 := by
  induction k with
  | zero => rw [partSum_zero]; omega
  | succ k ih =>
    rw [partSum_succ _ _ _ _ hx]
    have := h.lvs_bd (x + 1 + k)
    omega

/-! ### the middle age -/

/-- the least age from x on, looked for n times, at which at most half of L are left -/
def midF (f : Int) (xs : List Int) (L : Int) : Nat → Int → Int
  | 0, x => x
  | n + 1, x => if 2 * lvs f xs x ≤ L then x else midF f xs L n (x + 1)

def mdV (f : Int) (xs : List Int) (x : Int) : Int := midF f xs (lvs f xs x) 200 x

theorem midF_eq (f : Int) (xs : List Int) (L : Int) : ∀ (n : Nat) (x m : Int), x ≤ m → m < x + n → 2 * lvs f xs m ≤ L → (∀ y, x ≤ y → y < m → ¬ 2 * lvs f xs y ≤ L) → midF f xs L n x = m := by
  intro n
  induction n with
  | zero => intro x m h1 h2; omega
  | succ n ih =>
    intro x m h1 h2 h3 h4
    unfold midF
    by_cases hxm : x = m
    · subst hxm; rw [if_pos h3]
    · rw [if_neg (h4 x (Int.le_refl _) (by omega))]
      exact ih (x + 1) m (by omega) (by omega) h3 fun y hy hm => h4 y (by omega) hm

theorem LTab.mid {f : Int} {xs : List Int} (h : LTab f xs) (x m : Int) (hf : f ≤ x) (hx : x ≤ m) (hm : m ≤ 151) (h3 : 2 * lvs f xs m ≤ lvs f xs x) (h4 : ∀ y, x ≤ y → y < m → ¬ 2 * lvs f xs y ≤ lvs f xs x) : mdV f xs x = m := by
  have := h.1
  exact midF_eq _ _ _ _ _ _ hx (by omega) h3 h4

/-! ### made tables -/

/-- a number divided by 1000, rounded up -/
def up1000 (a : Int) : Int := -(-a / 1000)

/-- the lives that are left from year to year -/
def mkL (l : Int) : List Int → List Int
  | [] => if 0 < l then [l, 0] else [l]
  | r :: rs => if 0 < l then l :: mkL (l - up1000 (l * r)) rs else [l]

theorem up_bd (l r : Int) (hl : 0 ≤ l) (h0 : 0 ≤ r) (h1 : r ≤ 1000) : 0 ≤ up1000 (l * r) ∧ up1000 (l * r) ≤ l := by
  have a := Int.mul_le_mul_of_nonneg_left h1 hl
  have b := Int.mul_nonneg hl h0
  unfold up1000
  omega

theorem mul_bd (l r : Int) (hl : 0 ≤ l) (hl2 : l ≤ 1000000) (h0 : 0 ≤ r) (h1 : r ≤ 1000) : 0 ≤ l * r ∧ l * r ≤ 1000000000 := by
  have a := Int.mul_le_mul hl2 h1 h0 (by omega)
  have b := Int.mul_nonneg hl h0
  omega

theorem mkL_len (rs : List Int) : ∀ l : Int, 1 ≤ (mkL l rs).length ∧ (mkL l rs).length ≤ rs.length + 2 := by
  induction rs with
  | nil => intro l; unfold mkL; split <;> simp
  | cons r rs ih =>
    intro l; unfold mkL; split
    · have := ih (l - up1000 (l * r)); simp; omega
    · simp

theorem mkL_head (rs : List Int) (l : Int) : (mkL l rs).getD 0 0 = l := by
  cases rs <;> (unfold mkL; split <;> simp)

theorem mkL_two (rs : List Int) (l : Int) (h : 0 < l) : 2 ≤ (mkL l rs).length := by
  cases rs with
  | nil => unfold mkL; simp [h]
  | cons r rs => unfold mkL; rw [if_pos h]; have := (mkL_len rs (l - up1000 (l * r))).1; simp; omega

theorem getD_cons_succ (x : Int) (xs : List Int) (i : Nat) : (x :: xs).getD (i + 1) 0 = xs.getD i 0 := by simp [List.getD]

/-- all that a table asks of its lives, from l on -/
theorem mkL_good (rs : List Int) (hr : ∀ r ∈ rs, 0 ≤ r ∧ r ≤ 1000) : ∀ l : Int, 0 ≤ l →
    (mkL l rs).getD ((mkL l rs).length - 1) 0 = 0 ∧ (∀ i, i < (mkL l rs).length → 1 ≤ i → (mkL l rs).getD i 0 ≤ (mkL l rs).getD (i - 1) 0) ∧ (∀ i, i + 1 < (mkL l rs).length → 1 ≤ (mkL l rs).getD i 0) := by
  induction rs with
  | nil =>
    intro l hl
    unfold mkL; split
    · next h =>
      refine ⟨by simp, ?_, ?_⟩
      · intro i hi h1
        obtain rfl : i = 1 := by simp at hi; omega
        simp; omega
      · intro i hi
        obtain rfl : i = 0 := by simp at hi; omega
        simp; omega
    · next h =>
      obtain rfl : l = 0 := by omega
      refine ⟨by simp, ?_, ?_⟩
      · intro i hi h1; simp at hi; omega
      · intro i hi; simp at hi
  | cons r rs ih =>
    intro l hl
    obtain ⟨r0, r1⟩ := hr r List.mem_cons_self
    have ub := up_bd l r hl r0 r1
    obtain ⟨i1, i2, i3⟩ := ih (fun q hq => hr q (List.mem_cons_of_mem _ hq)) (l - up1000 (l * r)) (by omega)
    have hd := mkL_head rs (l - up1000 (l * r))
    have hlen := (mkL_len rs (l - up1000 (l * r))).1
    unfold mkL; split
    · next h =>
      generalize mkL (l - up1000 (l * r)) rs = ys at *
      refine ⟨?_, ?_, ?_⟩
      · rw [List.length_cons, show ys.length + 1 - 1 = (ys.length - 1) + 1 by omega, getD_cons_succ]; exact i1
      · intro i hi h1
        obtain ⟨j, rfl⟩ : ∃ j, i = j + 1 := ⟨i - 1, by omega⟩
        rw [getD_cons_succ]
        by_cases hj : j = 0
        · subst hj; simp at hd ⊢; omega
        · obtain ⟨q, rfl⟩ : ∃ q, j = q + 1 := ⟨j - 1, by omega⟩
          rw [show q + 1 + 1 - 1 = q + 1 by omega, getD_cons_succ]
          have := i2 (q + 1) (by simp at hi; omega) (by omega)
          simpa using this
      · intro i hi
        cases i with
        | zero => simp; omega
        | succ j => rw [getD_cons_succ]; exact i3 j (by simp at hi; omega)
    · next h =>
      obtain rfl : l = 0 := by omega
      refine ⟨by simp, ?_, ?_⟩
      · intro i hi h1; simp at hi; omega
      · intro i hi; simp at hi

theorem mkL_tab (f l : Int) (rs : List Int) (hf0 : 0 ≤ f) (hf1 : f ≤ 100) (hl0 : 1 ≤ l) (hl1 : l ≤ 1000000) (hn : rs.length ≤ 118) (hn2 : (rs.length : Int) ≤ 149 - f) (hr : ∀ r ∈ rs, 0 ≤ r ∧ r ≤ 1000) : LTab f (mkL l rs) := by
  obtain ⟨g1, g2, g3⟩ := mkL_good rs hr l (by omega)
  obtain ⟨n1, n2⟩ := mkL_len rs l
  have n3 := mkL_two rs l (by omega)
  have hd := mkL_head rs l
  refine ⟨⟨hf0, hf1⟩, ⟨n3, by omega⟩, by omega, by rw [hd]; omega, g1, fun i hi h1 => ⟨g2 i hi h1, g3 i⟩⟩

/-- one more year: the deaths are the rate's part, rounded up -/
theorem mkL_deaths (rs : List Int) : ∀ (l : Int) (i : Nat), i < rs.length → 0 < (mkL l rs).getD i 0 → (mkL l rs).getD i 0 - (mkL l rs).getD (i + 1) 0 = up1000 ((mkL l rs).getD i 0 * rs.getD i 0) := by
  induction rs with
  | nil => intro l i hi; simp at hi
  | cons r rs ih =>
    intro l i hi
    unfold mkL; split
    · next h =>
      cases i with
      | zero => intro _; rw [getD_cons_succ, mkL_head]; simp; omega
      | succ j => rw [getD_cons_succ, getD_cons_succ, getD_cons_succ]; exact ih _ j (by simpa using hi)
    · next h =>
      intro hp
      exfalso
      cases i with
      | zero => simp at hp; omega
      | succ j => simp at hp

/-- k years on, still alive: what has been laid and what is to come -/
theorem mkL_split (rs : List Int) (l c : Int) (pre : List Int) (k : Nat) (h : pre ++ mkL c (rs.drop k) = mkL l rs) (hk : k < rs.length) (hc : 0 < c) : (pre ++ [c]) ++ mkL (c - up1000 (c * rs.getD k 0)) (rs.drop (k + 1)) = mkL l rs := by
  rw [← h, List.drop_eq_getElem_cons hk]
  show _ = pre ++ mkL c (rs[k] :: rs.drop (k + 1))
  rw [mkL, if_pos hc]
  simp [List.getD, hk]

theorem mkL_stop (rs : List Int) : mkL 0 rs = [0] := by cases rs <;> simp [mkL]

open Go.ChangeShapes Go.WideShapes Go.ChangeAt Go.RowKit

theorem Ints.on {w w1 : World} {a : Option Addr} {l : Nat} {xs : List Int} (h : Ints w a l xs) (hb : Below w.heap.size w w1) : Ints w1 a l xs := h.below hb h.lt

/-- a number of the list, in its cell -/
theorem Ints.at {w : World} {a : Option Addr} {l : Nat} {xs : List Int} (h : Ints w a l xs) (hl : 0 < l) : ∃ b off, a = some ⟨b, off, none⟩ ∧ b < w.heap.size ∧ ∀ i, i < l → w.cell? ⟨b, off + i, none⟩ = some (.int .i64 (xs.getD i 0)) := by
  rcases h.cells with h0 | ⟨b, off, rfl, hc⟩
  · omega
  · exact ⟨b, off, rfl, block_lt (hc 0 hl), hc⟩

theorem ltB_no {f : Int} {xs : List Int} (h : ltB f xs = true → False) : ltB f xs = false := by
  rw [Bool.eq_false_iff]; exact h

open Go.ChangeShapes Go.WideShapes Go.ChangeAt Go.RowKit

end Go.Proofs.YtpphiekbhikadaaDoor

/- The source of drawn numbers of the model's draws: what one call of it does (a number in a range; only its own block turns). | The source of drawn numbers of the model's draws: how it begins, and one of some numbers. | The model's draws of numbers: each gives numbers in their bounds, writes into its own source alone and makes new memory. | The draws of chapter 1's numbers: two integers each, out of whatever code. -/
namespace Go.Proofs.YtpphiekbhikadaaDoor
open Go.ChangeShapes Go.WideShapes Go.ChangeAt Go.RowKit
set_option linter.unusedVariables false

/-- a number that a draw gives -/
def Drawn (n r : Int) : Prop := (1 < n → 0 ≤ r ∧ r < n) ∧ (n ≤ 1 → r = 0)

/-- Block B holds a source over the code (a, l, c): its three cells. -/
structure Src (B : Nat) (a : Option Addr) (l c : Nat) (t x : Int) (w : World) : Prop where
  here : B < w.heap.size
  code : w.cell? ⟨B, 0, none⟩ = some (.slice a l c)
  att : w.cell? ⟨B, 1, none⟩ = some (.int .i64 t)
  seed : w.cell? ⟨B, 2, none⟩ = some (.int .i64 x)
  free0 : w.frozen? ⟨B, 0, none⟩ = false
  free1 : w.frozen? ⟨B, 1, none⟩ = false
  free2 : w.frozen? ⟨B, 2, none⟩ = false
  t0 : 0 ≤ t
  tl : t ≤ l
  x0 : 0 ≤ x
  xl : x < 2147483647

theorem Src.put2 {B l c : Nat} {a : Option Addr} {t x y : Int} {w : World} (S : Src B a l c t x w) (h0 : 0 ≤ y) (h1 : y < 2147483647) : Src B a l c t y (w.setCell ⟨B, 2, none⟩ (.int .i64 y)) where
  here := by simpa [World.setCell] using S.here
  code := by rw [World.cell?_setCell_other _ _ _ _ (by simp)]; exact S.code
  att := by rw [World.cell?_setCell_other _ _ _ _ (by simp)]; exact S.att
  seed := World.cell?_setCell_same' _ _ _ (by rw [S.seed]; rfl)
  free0 := by rw [World.frozen?_setCell]; exact S.free0
  free1 := by rw [World.frozen?_setCell]; exact S.free1
  free2 := by rw [World.frozen?_setCell]; exact S.free2
  t0 := S.t0
  tl := S.tl
  x0 := h0
  xl := h1

theorem Src.put1 {B l c : Nat} {a : Option Addr} {t x u : Int} {w : World} (S : Src B a l c t x w) (h0 : 0 ≤ u) (h1 : u ≤ l) : Src B a l c u x (w.setCell ⟨B, 1, none⟩ (.int .i64 u)) where
  here := by simpa [World.setCell] using S.here
  code := by rw [World.cell?_setCell_other _ _ _ _ (by simp)]; exact S.code
  att := World.cell?_setCell_same' _ _ _ (by rw [S.att]; rfl)
  seed := by rw [World.cell?_setCell_other _ _ _ _ (by simp)]; exact S.seed
  free0 := by rw [World.frozen?_setCell]; exact S.free0
  free1 := by rw [World.frozen?_setCell]; exact S.free1
  free2 := by rw [World.frozen?_setCell]; exact S.free2
  t0 := h0
  tl := h1
  x0 := S.x0
  xl := S.xl

theorem Src.drewN {B l c : Nat} {a : Option Addr} {t x : Int} {w : World} (S : Src B a l c t x w) (n : Nat) : Src B a l c t x (w.drewN n) :=
  ⟨S.here, S.code, S.att, S.seed, S.free0, S.free1, S.free2, S.t0, S.tl, S.x0, S.xl⟩

theorem Src.drew {B l c : Nat} {a : Option Addr} {t x : Int} {w : World} (S : Src B a l c t x w) : Src B a l c t x w.drew :=
  ⟨S.here, S.code, S.att, S.seed, S.free0, S.free1, S.free2, S.t0, S.tl, S.x0, S.xl⟩

theorem drawn_mod (v n : Int) (hn : 1 < n) : Drawn n (v % n) :=
  ⟨fun _ => ⟨Int.emod_nonneg _ (by omega), Int.emod_lt_of_pos _ (by omega)⟩, fun h => by omega⟩

def IsSrc (B : Nat) (a : Option Addr) (l c : Nat) (w : World) : Prop := ∃ t x, Src B a l c t x w

def NextPost (B : Nat) (a : Option Addr) (l c : Nat) (n : Int) (w : World) (e : Ending) (w' : World) : Prop :=
  ∃ r, e = .returned (.int .i64 r) ∧ Drawn n r ∧ Only B w w' ∧ IsSrc B a l c w'

theorem next_any (B : Nat) (a : Option Addr) (l c : Nat) (z : List Int) (n : Int) (w : World) (hs : IsSrc B a l c w) (hr : IsRow .u8 w a l c z) (ha : Apart a z B) :
    Calls Tryd.prog 34 #[.pointer (some ⟨B, 0, none⟩), .int .i64 n] w (NextPost B a l c n w) := by
  obtain ⟨t, x, S⟩ := hs
  by_cases hn : n ≤ 1
  · go_enter Tryd.func34, Tryd.ntmps34
    go_wp2
    go_ret
    exact ⟨0, rfl, ⟨fun h => by omega, fun _ => rfl⟩, Only.refl _ _, t, x, S⟩
  · have c0 := S.code
    have c1 := S.att
    have c2 := S.seed
    have f1 := S.free1
    have f2 := S.free2
    have t0 := S.t0
    have tl := S.tl
    have x0 := S.x0
    have xl := S.xl
    have SS := Lib.hid S
    clear S
    have hm := hr.len_le
    unfold maxLen at hm
    obtain ⟨y, hy⟩ : ∃ y, (x * 48271 + 71) % 2147483647 = y := ⟨_, rfl⟩
    have y0 : 0 ≤ y := by omega
    have yl : y < 2147483647 := by omega
    by_cases hlt : t < l
    · rcases hr with ⟨_, rfl, _, _⟩ | ⟨p, rfl, hl, hc, hz, hcell, hwf⟩
      · omega
      obtain ⟨b, off, rfl, hcl⟩ := ints_at hcell (by omega)
      have hbB : b < B := ha _ rfl (by omega)
      clear ha
      have cz := hcl t.toNat (by omega)
      have rz := range_u8 hwf t.toNat
      obtain ⟨v, hv⟩ : ∃ v, z.getD t.toNat 0 = v := ⟨_, rfl⟩
      have rz0 : 0 ≤ v ∧ v ≤ 255 := by rw [← hv]; simpa [List.getD] using rz
      rw [hv] at cz
      obtain ⟨v0, v1⟩ := rz0
      obtain ⟨k, rfl⟩ := Int.eq_ofNat_of_zero_le t0
      have HH := Lib.hid hcell
      have HC := Lib.hid hcl
      have HV := Lib.hid hv
      have HY := Lib.hid hwf
      clear hcell hcl hv hwf rz
      have hne : b ≠ B := by omega
      simp only [Int.toNat_natCast] at cz
      have gd : Only B w ((w.setCell ⟨B, 2, none⟩ (.int .i64 y))) := (Only.refl B w).setCell (p := ⟨B, 2, none⟩) rfl _
      have GD := Lib.hid gd
      clear gd
      have SD : Hid (∀ m, Src B (some ⟨b, off, none⟩) l c ((k : Int) + 1) y (((w.setCell ⟨B, 2, none⟩ (.int .i64 y)).drewN m).setCell ⟨B, 1, none⟩ (.int .i64 ((k : Int) + 1)))) :=
        Lib.hid fun m => ((SS.out.put2 y0 yl).drewN m).put1 (by omega) (by omega)
      have OD : Hid (∀ m, Only B w (((w.setCell ⟨B, 2, none⟩ (.int .i64 y)).drewN m).setCell ⟨B, 1, none⟩ (.int .i64 ((k : Int) + 1)))) :=
        Lib.hid fun m => (GD.out.drewN m).setCell (p := ⟨B, 1, none⟩) rfl _
      by_cases h256 : n ≤ 256
      · by_cases hev : ((k : Int) + 1) % 2 = 0
        · have he : (((k : Int) + 1) % 2 == 0) = true := by simpa using hev
          have HE := Lib.hid hev
          clear hev
          go_enter Tryd.func34, Tryd.ntmps34
          go_wp2
          go_quiet (fail)
          go_wp2
          go_quiet (fail)
          go_wp2
          go_quiet (fail)
          go_wp2
          go_ret
          exact ⟨v % n, rfl, drawn_mod _ _ (by omega), (OD.out _).drewN _, _, _, (SD.out _).drewN _⟩
        · have he : (((k : Int) + 1) % 2 == 0) = false := by simpa using hev
          have HE := Lib.hid hev
          clear hev
          go_enter Tryd.func34, Tryd.ntmps34
          go_wp2
          go_quiet (fail)
          go_wp2
          go_quiet (fail)
          go_wp2
          go_ret
          exact ⟨(y / 41 + v) % n, rfl, drawn_mod _ _ (by omega), OD.out _, _, _, SD.out _⟩
      · go_enter Tryd.func34, Tryd.ntmps34
        go_wp2
        go_quiet (fail)
        go_wp2
        go_quiet (fail)
        go_wp2
        go_ret
        exact ⟨(y / 41 + v) % n, rfl, drawn_mod _ _ (by omega), OD.out _, _, _, SD.out _⟩
    · go_enter Tryd.func34, Tryd.ntmps34
      go_wp2
      go_quiet (fail)
      go_wp2
      go_ret
      refine ⟨y / 41 % n, rfl, drawn_mod _ _ (by omega), ?_, t, y, ?_⟩
      · exact (((Only.refl B w).setCell (p := ⟨B, 2, none⟩) rfl _).drewN _)
      · exact ((SS.out.put2 y0 yl).drewN _)

def FromPost (a : Option Addr) (l c : Nat) (w : World) (e : Ending) (w' : World) : Prop :=
  e = .returned (.pointer (some ⟨w.heap.size, 0, none⟩)) ∧ IsSrc w.heap.size a l c w' ∧ w'.heap.size = w.heap.size + 1 ∧ Below w.heap.size w w'

theorem from_any (a : Option Addr) (l c : Nat) (z : List Int) (w : World) (hr : IsRow .u8 w a l c z) :
    Calls Tryd.prog 28 #[.slice a l c] w (FromPost a l c w) := by
  have ha := Lib.hid hr.apart
  have hm := hr.len_le
  unfold maxLen at hm
  have HR := Lib.hid hr
  clear hr
  go_enter Tryd.func28, Tryd.ntmps28
  go_wp2
  have SA : Src w.heap.size a l c 0 25001 (w.alloc (.cells #[.slice a l c, .int .i64 0, .int .i64 25001] 82)) := by
    constructor <;> first | omega | (simp; done) | go_simp
  have OA := Lib.hid SA
  clear SA
  go_loopw [4] (fun i wr => ∃ (k : Nat) (x : Int), k ≤ l ∧ k ≤ 64 ∧ i = .int .i64 k ∧ Hid (Src w.heap.size a l c 0 x wr) ∧ Hid (Only w.heap.size (w.alloc (.cells #[.slice a l c, .int .i64 0, .int .i64 25001] 82)) wr)) (fun i _ => 64 - (intOf i).toNat)
  case atStart => exact ⟨0, 25001, Nat.zero_le _, Nat.zero_le _, rfl, OA, Lib.hid (Only.refl _ _)⟩
  case round =>
    obtain ⟨k, x, hk, hk2, rfl, HS, HO⟩ := hrel
    by_cases hlt : k < l
    · by_cases h64 : k < 64
      · rcases HR.out with ⟨_, rfl, _, _⟩ | ⟨p, rfl, hl, hc, hz, hcell, hwf⟩
        · omega
        obtain ⟨b, off, rfl, hcl⟩ := ints_at hcell (by omega)
        have hbB : b < w.heap.size := ha.out _ rfl (by omega)
        have cz := hcl k (by omega)
        have rz := range_u8 hwf k
        obtain ⟨v, hv⟩ : ∃ v, z.getD k 0 = v := ⟨_, rfl⟩
        have rz0 : 0 ≤ v ∧ v ≤ 255 := by rw [← hv]; simpa [List.getD] using rz
        rw [hv] at cz
        obtain ⟨v0, v1⟩ := rz0
        have cy : wr.cell? ⟨b, off + k, none⟩ = some (.int .u8 v) := by
          rw [HO.out.cell (p := ⟨b, off + k, none⟩) (by simp; omega), World.cell?_alloc_lt _ _ _ hbB]; exact cz
        have c2 := HS.out.seed
        have f2 := HS.out.free2
        have x0 := HS.out.x0
        have xl := HS.out.xl
        have hne : b ≠ w.heap.size := by omega
        clear hcell hcl hv hwf rz cz
        obtain ⟨y, hy⟩ : ∃ y, (x * 71 + v) % 2147483647 = y := ⟨_, rfl⟩
        have y0 : 0 ≤ y := by omega
        have yl : y < 2147483647 := by omega
        go_wp2
        go_region
        all_goals
          go_wp2
          go_roundw
          case rel => exact ⟨k + 1, y, by omega, by omega, by go_num, Lib.hid (by first | exact (HS.out.put2 y0 yl).drew | exact (HS.out.drew.put2 y0 yl) | exact (HS.out.put2 y0 yl)), Lib.hid (by first | exact (HO.out.setCell (p := ⟨w.heap.size, 2, none⟩) rfl _).drew | exact (HO.out.drew.setCell (p := ⟨w.heap.size, 2, none⟩) rfl _))⟩
          case measure => simp [intOf]; omega
      · go_wp2
        go_ret
        exact ⟨rfl, ⟨_, _, HS.out⟩, HO.out.size.trans (by simp), ((Below.refl _ _).alloc (Nat.le_refl _) _).trans (HO.out.below (Nat.le_refl _))⟩
    · go_wp2
      go_ret
      exact ⟨rfl, ⟨_, _, HS.out⟩, HO.out.size.trans (by simp), ((Below.refl _ _).alloc (Nat.le_refl _) _).trans (HO.out.below (Nat.le_refl _))⟩

theorem drawn_bd {n r : Int} (h : Drawn n r) (hn : 1 ≤ n) : 0 ≤ r ∧ r < n := by
  obtain ⟨h1, h2⟩ := h
  by_cases h : 1 < n
  · exact h1 h
  · have := h2 (by omega); omega

/-- one of the numbers zs (the draw gives the index) -/
def PickPost (B : Nat) (a : Option Addr) (l c : Nat) (zs : List Int) (w : World) (e : Ending) (w' : World) : Prop :=
  ∃ r, e = .returned (.int .i64 r) ∧ r ∈ zs ∧ Only B w w' ∧ IsSrc B a l c w'

theorem pick_any (B L : Nat) (a : Option Addr) (l c m : Nat) (z zs : List Int) (w : World) (hs : IsSrc B a l c w) (hr : IsRow .u8 w a l c z) (ha : Apart a z B)
    (hL : L ≠ B) (hz : zs.length = m) (hm0 : 0 < m) (hm1 : m < 1000) (hcell : ∀ i, i < m → w.cell? ⟨L, i, none⟩ = some (.int .i64 (zs.getD i 0))) :
    Calls Tryd.prog 56 #[.pointer (some ⟨B, 0, none⟩), .slice (some ⟨L, 0, none⟩) m m] w (PickPost B a l c zs w) := by
  have HA := Lib.hid ha
  have HR := Lib.hid hr
  have HC := Lib.hid hcell
  have HZ := Lib.hid hz
  clear ha hr hcell hz
  go_enter Tryd.func56, Tryd.ntmps56
  go_wp2_with (go_at_call 34; go_must (refine (next_any B a l c z _ _ hs HR.out HA.out).mono ?_; rintro e w' ⟨r, rfl, hd, ho, hs'⟩; have hr := drawn_bd hd (by omega);  obtain ⟨j, rfl⟩ := Int.eq_ofNat_of_zero_le hr.1; have hj : j < m := (by omega); clear hr; have hc' : w'.cell? ⟨L, j, none⟩ = some (.int .i64 (zs.getD j 0)) := (ho.cell (p := ⟨L, j, none⟩) hL).trans (HC.out j hj); have HO := Lib.hid ho; have HS := Lib.hid hs'; clear ho hs' hd))
  go_ret
  exact ⟨_, rfl, by rw [List.getElem?_eq_getElem (by rw [HZ.out]; assumption)]; simp, HO.out, HS.out⟩

/-- Of what was there only block B has turned. -/
structure But (B : Nat) (w w' : World) : Prop where
  os : w'.os = w.os
  tape : w'.tape = w.tape
  output : w'.output = w.output
  size : w.heap.size ≤ w'.heap.size
  block : ∀ k, k < w.heap.size → k ≠ B → w'.heap[k]? = w.heap[k]?

theorem But.refl (B : Nat) (w : World) : But B w w := ⟨rfl, rfl, rfl, Nat.le_refl _, fun _ _ _ => rfl⟩

theorem But.trans {B : Nat} {a b c : World} (h : But B a b) (k : But B b c) : But B a c :=
  ⟨k.os.trans h.os, k.tape.trans h.tape, k.output.trans h.output, Nat.le_trans h.size k.size, fun i hi hb => (k.block i (Nat.lt_of_lt_of_le hi h.size) hb).trans (h.block i hi hb)⟩

theorem Only.but {B : Nat} {w w' : World} (h : Only B w w') : But B w w' := ⟨h.os, h.tape, h.output, by rw [h.size]; exact Nat.le_refl _, fun k _ hb => h.block k hb⟩

theorem But.below {A B : Nat} {w w' : World} (h : But B w w') (hA : A ≤ B) (hs : A ≤ w.heap.size) : Below A w w' :=
  ⟨h.os, h.tape, h.output, h.size, fun k hk => h.block k (by omega) (by omega)⟩

theorem But.alloc {B : Nat} {w : World} (o : Obj) : But B w (w.alloc o) :=
  ⟨rfl, rfl, rfl, by simp, fun k hk _ => Below.heap_alloc _ _ _ hk⟩

theorem But.drew {B : Nat} {w w' : World} (h : But B w w') : But B w w'.drew := ⟨h.os, h.tape, h.output, h.size, h.block⟩

theorem But.drewN {B : Nat} {w w' : World} (h : But B w w') (n : Nat) : But B w (w'.drewN n) := ⟨h.os, h.tape, h.output, h.size, h.block⟩

theorem But.cell {B : Nat} {w w' : World} (h : But B w w') {p : Addr} (hp : p.block < w.heap.size) (hb : p.block ≠ B) : w'.cell? p = w.cell? p := World.cell?_of_block (w := w) (h.block p.block hp hb)

theorem But.frozen {B : Nat} {w w' : World} (h : But B w w') {p : Addr} (hp : p.block < w.heap.size) (hb : p.block ≠ B) : w'.frozen? p = w.frozen? p := World.frozen?_of_block (w := w) (h.block p.block hp hb)

/-- Block B holds a source, and what it reads lies below it. -/
structure Ready (B : Nat) (a : Option Addr) (l c : Nat) (z : List Int) (w : World) : Prop where
  src : IsSrc B a l c w
  row : IsRow .u8 w a l c z
  apart : Apart a z B

theorem Ready.here {B l c : Nat} {a : Option Addr} {z : List Int} {w : World} (h : Ready B a l c z w) : B < w.heap.size := by
  obtain ⟨_, _, S⟩ := h.src; exact S.here

theorem Ready.below {B C l c : Nat} {a : Option Addr} {z : List Int} {w w' : World} (h : Ready B a l c z w) (hb : Below C w w') (hC : B < C) : Ready B a l c z w' := by
  obtain ⟨⟨t, x, S⟩, r, p⟩ := h
  refine ⟨⟨t, x, ?_⟩, r.below hb (p.mono (by omega)), p⟩
  exact ⟨Nat.lt_of_lt_of_le S.here hb.size, (hb.cell (p := ⟨B, 0, none⟩) hC).trans S.code, (hb.cell (p := ⟨B, 1, none⟩) hC).trans S.att, (hb.cell (p := ⟨B, 2, none⟩) hC).trans S.seed,
    (hb.frozen (p := ⟨B, 0, none⟩) hC).trans S.free0, (hb.frozen (p := ⟨B, 1, none⟩) hC).trans S.free1, (hb.frozen (p := ⟨B, 2, none⟩) hC).trans S.free2, S.t0, S.tl, S.x0, S.xl⟩

theorem Ready.alloc {B l c : Nat} {a : Option Addr} {z : List Int} {w : World} (h : Ready B a l c z w) (o : Obj) : Ready B a l c z (w.alloc o) :=
  h.below (Below.refl w.heap.size w |>.alloc (Nat.le_refl _) o) h.here

theorem Ready.drew {B l c : Nat} {a : Option Addr} {z : List Int} {w : World} (h : Ready B a l c z w) : Ready B a l c z w.drew :=
  h.below (Below.refl w.heap.size w |>.drew) h.here

theorem Ready.drewN {B l c : Nat} {a : Option Addr} {z : List Int} {w : World} (h : Ready B a l c z w) (n : Nat) : Ready B a l c z (w.drewN n) :=
  h.below (below_drewN (Below.refl w.heap.size w) n) h.here

def NumPost (B : Nat) (a : Option Addr) (l c : Nat) (z : List Int) (p : Int → Prop) (w : World) (e : Ending) (w' : World) : Prop :=
  ∃ r, e = .returned (.int .i64 r) ∧ p r ∧ But B w w' ∧ Ready B a l c z w'

theorem next_r (B : Nat) (a : Option Addr) (l c : Nat) (z : List Int) (n : Int) (w : World) (h : Ready B a l c z w) :
    Calls Tryd.prog 34 #[.pointer (some ⟨B, 0, none⟩), .int .i64 n] w (NumPost B a l c z (Drawn n) w) :=
  (next_any B a l c z n w h.src h.row h.apart).mono fun e w' ⟨r, he, hd, ho, hs⟩ =>
    ⟨r, he, hd, ho.but, hs, h.row.below (ho.below (Nat.le_refl B)) h.apart, h.apart⟩

theorem pick_r (B L : Nat) (a : Option Addr) (l c m : Nat) (z zs : List Int) (w : World) (h : Ready B a l c z w)
    (hL : L ≠ B) (hz : zs.length = m) (hm0 : 0 < m) (hm1 : m < 1000) (hcell : ∀ i, i < m → w.cell? ⟨L, i, none⟩ = some (.int .i64 (zs.getD i 0))) :
    Calls Tryd.prog 56 #[.pointer (some ⟨B, 0, none⟩), .slice (some ⟨L, 0, none⟩) m m] w (NumPost B a l c z (· ∈ zs) w) :=
  (pick_any B L a l c m z zs w h.src h.row h.apart hL hz hm0 hm1 hcell).mono fun e w' ⟨r, he, hd, ho, hs⟩ =>
    ⟨r, he, hd, ho.but, hs, h.row.below (ho.below (Nat.le_refl B)) h.apart, h.apart⟩

/-- a new block of integers, as 'buildSlice' lays it -/
theorem new_cells (w : World) (zs : List Int) (T : TypeId) : ∀ i, i < zs.length → (w.alloc (.cells (zs.map (Value.int .i64)).toArray T)).cell? ⟨w.heap.size, i, none⟩ = some (.int .i64 (zs.getD i 0)) := by
  intro i hi
  rw [World.cell?_alloc_at _ _ _ _ rfl]
  simp [List.getD, hi]

def Any (_ : Int) : Prop := True

/-- a pick out of a new row of numbers -/
theorem pick_new (B : Nat) (zs : List Int) (m : Nat) (C : Array Value) (T : TypeId) (w : World) {a : Option Addr} {l c : Nat} {z : List Int} (h : Ready B a l c z w)
    (hC : C = (zs.map (Value.int .i64)).toArray) (hz : zs.length = m) (hm0 : 0 < m) (hm1 : m < 1000) :
    Calls Tryd.prog 56 #[.pointer (some ⟨B, 0, none⟩), .slice (some ⟨w.heap.size, 0, none⟩) m m] (w.alloc (.cells C T)) (NumPost B a l c z (· ∈ zs) w) := by
  subst hC
  subst hz
  refine (pick_r B _ a l c _ z zs _ (h.alloc _) (by have := h.here; omega) rfl hm0 hm1 (new_cells _ _ _)).mono ?_
  rintro e w1 ⟨r, rfl, hd, ho, hs⟩
  exact ⟨r, rfl, hd, (But.alloc _).trans ho, hs⟩

theorem pick2 (B : Nat) (x1 x2 : Int) (T : TypeId) (w : World) {a : Option Addr} {l c : Nat} {z : List Int} (h : Ready B a l c z w) :
    Calls Tryd.prog 56 #[.pointer (some ⟨B, 0, none⟩), .slice (some ⟨w.heap.size, 0, none⟩) 2 2] (w.alloc (.cells #[.int .i64 x1, .int .i64 x2] T)) (NumPost B a l c z (· ∈ [x1, x2]) w) :=
  pick_new B [x1, x2] 2 _ T w h rfl rfl (by decide) (by decide)

theorem pick3 (B : Nat) (x1 x2 x3 : Int) (T : TypeId) (w : World) {a : Option Addr} {l c : Nat} {z : List Int} (h : Ready B a l c z w) :
    Calls Tryd.prog 56 #[.pointer (some ⟨B, 0, none⟩), .slice (some ⟨w.heap.size, 0, none⟩) 3 3] (w.alloc (.cells #[.int .i64 x1, .int .i64 x2, .int .i64 x3] T)) (NumPost B a l c z (· ∈ [x1, x2, x3]) w) :=
  pick_new B [x1, x2, x3] 3 _ T w h rfl rfl (by decide) (by decide)

theorem pick4 (B : Nat) (x1 x2 x3 x4 : Int) (T : TypeId) (w : World) {a : Option Addr} {l c : Nat} {z : List Int} (h : Ready B a l c z w) :
    Calls Tryd.prog 56 #[.pointer (some ⟨B, 0, none⟩), .slice (some ⟨w.heap.size, 0, none⟩) 4 4] (w.alloc (.cells #[.int .i64 x1, .int .i64 x2, .int .i64 x3, .int .i64 x4] T)) (NumPost B a l c z (· ∈ [x1, x2, x3, x4]) w) :=
  pick_new B [x1, x2, x3, x4] 4 _ T w h rfl rfl (by decide) (by decide)

theorem pick5 (B : Nat) (x1 x2 x3 x4 x5 : Int) (T : TypeId) (w : World) {a : Option Addr} {l c : Nat} {z : List Int} (h : Ready B a l c z w) :
    Calls Tryd.prog 56 #[.pointer (some ⟨B, 0, none⟩), .slice (some ⟨w.heap.size, 0, none⟩) 5 5] (w.alloc (.cells #[.int .i64 x1, .int .i64 x2, .int .i64 x3, .int .i64 x4, .int .i64 x5] T)) (NumPost B a l c z (· ∈ [x1, x2, x3, x4, x5]) w) :=
  pick_new B [x1, x2, x3, x4, x5] 5 _ T w h rfl rfl (by decide) (by decide)

theorem ready_of {a : Option Addr} {l c : Nat} {z : List Int} {w w1 : World} (hr : IsRow .u8 w a l c z) (hs : IsSrc w.heap.size a l c w1) (hb : Below w.heap.size w w1) : Ready w.heap.size a l c z w1 :=
  ⟨hs, hr.below hb hr.apart, hr.apart⟩

def TwoPost (w : World) (e : Ending) (w' : World) : Prop := ∃ x y, e = .returned (.tuple #[.int .i64 x, .int .i64 y]) ∧ Below w.heap.size w w'

def OnePost (w : World) (e : Ending) (w' : World) : Prop := ∃ x, e = .returned (.int .i64 x) ∧ Below w.heap.size w w'

end Go.Proofs.YtpphiekbhikadaaDoor

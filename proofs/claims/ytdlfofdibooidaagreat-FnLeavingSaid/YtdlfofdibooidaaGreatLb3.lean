/- Merged: Tab, IntD. -/
import Derived.Test.YtdlfofdibooidaaGreatLb1
import Derived.Test.YtdlfofdibooidaaGreatLb2

/- Life tables as lists of numbers: what the walks say of them (no program in it). | Whether a life table is one: what both functions return; codes of a table and an age. | Whether a life table is one: what the program's function returns. -/
namespace Go.Proofs.YtdlfofdibooidaaGreat
set_option linter.unusedVariables false
set_option maxRecDepth 100000

/-- (f, xs) is a life table -/
def LTab (f : Int) (xs : List Int) : Prop :=
  (0 ≤ f ∧ f ≤ 100) ∧ (2 ≤ xs.length ∧ xs.length ≤ 120) ∧ f + (xs.length : Int) ≤ 151 ∧ (1 ≤ xs.getD 0 0 ∧ xs.getD 0 0 ≤ 1000000) ∧ xs.getD (xs.length - 1) 0 = 0 ∧
  ∀ i, i < xs.length → 1 ≤ i → xs.getD i 0 ≤ xs.getD (i - 1) 0 ∧ (i + 1 < xs.length → 1 ≤ xs.getD i 0)

def ltB (f : Int) (xs : List Int) : Bool :=
  decide ((0 ≤ f ∧ f ≤ 100) ∧ (2 ≤ xs.length ∧ xs.length ≤ 120) ∧ f + (xs.length : Int) ≤ 151 ∧ (1 ≤ xs.getD 0 0 ∧ xs.getD 0 0 ≤ 1000000) ∧ xs.getD (xs.length - 1) 0 = 0 ∧
  ∀ i, i < xs.length → 1 ≤ i → xs.getD i 0 ≤ xs.getD (i - 1) 0 ∧ (i + 1 < xs.length → 1 ≤ xs.getD i 0))

theorem ltB_iff (f : Int) (xs : List Int) : ltB f xs = true ↔ LTab f xs := by
  unfold ltB LTab; rw [decide_eq_true_iff]

theorem ltB_t {f : Int} {xs : List Int} (h : LTab f xs) : ltB f xs = true := (ltB_iff _ _).2 h

theorem ltB_f {f : Int} {xs : List Int} (h : ¬ LTab f xs) : ltB f xs = false := by
  rw [Bool.eq_false_iff]; exact fun hh => h ((ltB_iff _ _).1 hh)

theorem getD_far (xs : List Int) (i : Nat) (h : xs.length ≤ i) : xs.getD i 0 = 0 := by
  simp [List.getD, h]

theorem LTab.last {f : Int} {xs : List Int} (h : LTab f xs) (i : Nat) (hi : xs.length ≤ i + 1) : xs.getD i 0 = 0 := by
  obtain ⟨_, ⟨h2, _⟩, _, _, h5, _⟩ := h
  by_cases he : i + 1 = xs.length
  · rw [← h5]; congr 1; omega
  · exact getD_far _ _ (by omega)

theorem LTab.pos {f : Int} {xs : List Int} (h : LTab f xs) (i : Nat) (hi : i + 1 < xs.length) : 1 ≤ xs.getD i 0 := by
  obtain ⟨_, _, _, h4, _, h6⟩ := h
  by_cases h0 : i = 0
  · subst h0; exact h4.1
  · exact (h6 i (by omega) (by omega)).2 hi

theorem LTab.nonneg {f : Int} {xs : List Int} (h : LTab f xs) (i : Nat) : 0 ≤ xs.getD i 0 := by
  by_cases hi : i + 1 < xs.length
  · have := h.pos i hi; omega
  · rw [h.last i (by omega)]; omega

theorem LTab.step {f : Int} {xs : List Int} (h : LTab f xs) (i : Nat) : xs.getD (i + 1) 0 ≤ xs.getD i 0 := by
  by_cases hi : i + 1 < xs.length
  · have := (h.2.2.2.2.2 (i + 1) hi (by omega)).1
    simpa using this
  · rw [h.last (i + 1) (by omega)]; exact h.nonneg i

theorem LTab.mono {f : Int} {xs : List Int} (h : LTab f xs) (i j : Nat) (hij : i ≤ j) : xs.getD j 0 ≤ xs.getD i 0 := by
  induction j with
  | zero => obtain rfl : i = 0 := by omega
            exact Int.le_refl _
  | succ j ih =>
    by_cases he : i = j + 1
    · subst he; exact Int.le_refl _
    · exact Int.le_trans (h.step j) (ih (by omega))

theorem LTab.le {f : Int} {xs : List Int} (h : LTab f xs) (i : Nat) : xs.getD i 0 ≤ 1000000 := by
  have := h.mono 0 i (by omega)
  have := h.2.2.2.1.2
  omega

/-- the lives at an age from the first one on -/
def lvs (f : Int) (xs : List Int) (x : Int) : Int := xs.getD (x - f).toNat 0

theorem LTab.lvs_zero {f : Int} {xs : List Int} (h : LTab f xs) (x : Int) (hx : f + xs.length ≤ x + 1) : lvs f xs x = 0 := h.last _ (by omega)

theorem LTab.lvs_bd {f : Int} {xs : List Int} (h : LTab f xs) (x : Int) : 0 ≤ lvs f xs x ∧ lvs f xs x ≤ 1000000 := ⟨h.nonneg _, h.le _⟩

theorem LTab.lvs_pos {f : Int} {xs : List Int} (h : LTab f xs) (x : Int) (hx : x + 1 < f + xs.length) (hf : f ≤ x) : 1 ≤ lvs f xs x := h.pos _ (by omega)

theorem LTab.lvs_mono {f : Int} {xs : List Int} (h : LTab f xs) (x y : Int) (hx : x ≤ y) : lvs f xs y ≤ lvs f xs x := h.mono _ _ (by omega)

/-! ### the codes -/


/-- the code of a table and an age -/
def ageE (f : Int) (xs : List Int) (x : Int) : Int := if ltB f xs = true then (if f ≤ x ∧ x ≤ 150 then 0 else 2) else 1

theorem ageE_1 {f : Int} {xs : List Int} {x : Int} (h : ltB f xs = false) : ageE f xs x = 1 := by simp [ageE, h]

theorem ageE_2 {f : Int} {xs : List Int} {x : Int} (h : ltB f xs = true) (g : ¬ (f ≤ x ∧ x ≤ 150)) : ageE f xs x = 2 := by simp [ageE, h, g]

theorem ageE_0 {f : Int} {xs : List Int} {x : Int} (h : ltB f xs = true) (g : f ≤ x ∧ x ≤ 150) : ageE f xs x = 0 := by simp [ageE, h, g]

theorem ageE_iff {f : Int} {xs : List Int} {x : Int} : ageE f xs x = 0 ↔ LTab f xs ∧ f ≤ x ∧ x ≤ 150 := by
  unfold ageE; rw [← ltB_iff]
  split
  · next h => split <;> simp_all
  · next h => simp [h]

/-- the lives at an age, and 0 beside an error -/
def laV (f : Int) (xs : List Int) (x : Int) : Int := if ageE f xs x = 0 then lvs f xs x else 0

/-- the deaths at an age, and 0 beside an error -/
def daV (f : Int) (xs : List Int) (x : Int) : Int := if ageE f xs x = 0 then lvs f xs x - lvs f xs (x + 1) else 0

/-! ### sums -/

theorem take_sum_succ (ys : List Int) (k : Nat) : (ys.take (k + 1)).sum = (ys.take k).sum + ys.getD k 0 := by
  rw [List.take_add_one, List.sum_append]
  cases h : ys[k]? <;> simp [List.getD, h]

/-- the lives at all later ages -/
def laterSum (f : Int) (xs : List Int) (x : Int) : Int := (xs.drop ((x - f).toNat + 1)).sum

theorem getD_drop (xs : List Int) (d k : Nat) : (xs.drop d).getD k 0 = xs.getD (d + k) 0 := by simp [List.getD]

/-- the sum of the lives at the ages x + 1, .., x + k -/
def partSum (f : Int) (xs : List Int) (x : Int) (k : Nat) : Int := ((xs.drop ((x - f).toNat + 1)).take k).sum

theorem partSum_zero (f : Int) (xs : List Int) (x : Int) : partSum f xs x 0 = 0 := by simp [partSum]

theorem partSum_succ (f : Int) (xs : List Int) (x : Int) (k : Nat) (hx : f ≤ x) : partSum f xs x (k + 1) = partSum f xs x k + lvs f xs (x + 1 + k) := by
  unfold partSum lvs
  rw [take_sum_succ, getD_drop]
  congr 2; omega

theorem partSum_all (f : Int) (xs : List Int) (x : Int) (k : Nat) (h : xs.length ≤ (x - f).toNat + 1 + k) : partSum f xs x k = laterSum f xs x := by
  unfold partSum laterSum
  rw [List.take_of_length_le (by simp; omega)]

theorem LTab.partSum_end {f : Int} {xs : List Int} (h : LTab f xs) (x : Int) (k : Nat) (hk : xs.length ≤ (x - f).toNat + 1 + k + 1) (hx : f ≤ x) : partSum f xs x k = laterSum f xs x := by
  rw [← partSum_all f xs x (k + 1) (by omega), partSum_succ _ _ _ _ hx, h.lvs_zero _ (by omega)]; simp

theorem LTab.partSum_bd {f : Int} {xs : List Int} (h : LTab f xs) (x : Int) (hx : f ≤ x) (k : Nat) : 0 ≤ partSum f xs x k ∧ partSum f xs x k ≤ k * 1000000 := by
  induction k with
  | zero => rw [partSum_zero]; omega
  | succ k ih =>
    rw [partSum_succ _ _ _ _ hx]
    have := h.lvs_bd (x + 1 + k)
    omega

/-! ### the middle age -/

/-- the least age from x on, looked for n times, at which at most half of L are left -/
def midF (f : Int) (xs : List Int) (L : Int) : Nat → Int → Int
  | 0, x => x
  | n + 1, x => if 2 * lvs f xs x ≤ L then x else midF f xs L n (x + 1)

def mdV (f : Int) (xs : List Int) (x : Int) : Int := midF f xs (lvs f xs x) 200 x

theorem midF_eq (f : Int) (xs : List Int) (L : Int) : ∀ (n : Nat) (x m : Int), x ≤ m → m < x + n → 2 * lvs f xs m ≤ L → (∀ y, x ≤ y → y < m → ¬ 2 * lvs f xs y ≤ L) → midF f xs L n x = m := by
  intro n
  induction n with
  | zero => intro x m h1 h2; omega
  | succ n ih =>
    intro x m h1 h2 h3 h4
    unfold midF
    by_cases hxm : x = m
    · subst hxm; rw [if_pos h3]
    · rw [if_neg (h4 x (Int.le_refl _) (by omega))]
      exact ih (x + 1) m (by omega) (by omega) h3 fun y hy hm => h4 y (by omega) hm

theorem LTab.mid {f : Int} {xs : List Int} (h : LTab f xs) (x m : Int) (hf : f ≤ x) (hx : x ≤ m) (hm : m ≤ 151) (h3 : 2 * lvs f xs m ≤ lvs f xs x) (h4 : ∀ y, x ≤ y → y < m → ¬ 2 * lvs f xs y ≤ lvs f xs x) : mdV f xs x = m := by
  have := h.1
  exact midF_eq _ _ _ _ _ _ hx (by omega) h3 h4

/-! ### made tables -/

/-- a number divided by 1000, rounded up -/
def up1000 (a : Int) : Int := -(-a / 1000)

/-- the lives that are left from year to year -/
def mkL (l : Int) : List Int → List Int
  | [] => if 0 < l then [l, 0] else [l]
  | r :: rs => if 0 < l then l :: mkL (l - up1000 (l * r)) rs else [l]

theorem up_bd (l r : Int) (hl : 0 ≤ l) (h0 : 0 ≤ r) (h1 : r ≤ 1000) : 0 ≤ up1000 (l * r) ∧ up1000 (l * r) ≤ l := by
  have a := Int.mul_le_mul_of_nonneg_left h1 hl
  have b := Int.mul_nonneg hl h0
  unfold up1000
  omega

theorem mul_bd (l r : Int) (hl : 0 ≤ l) (hl2 : l ≤ 1000000) (h0 : 0 ≤ r) (h1 : r ≤ 1000) : 0 ≤ l * r ∧ l * r ≤ 1000000000 := by
  have a := Int.mul_le_mul hl2 h1 h0 (by omega)
  have b := Int.mul_nonneg hl h0
  omega

theorem mkL_len (rs : List Int) : ∀ l : Int, 1 ≤ (mkL l rs).length ∧ (mkL l rs).length ≤ rs.length + 2 := by
  induction rs with
  | nil => intro l; unfold mkL; split <;> simp
  | cons r rs ih =>
    intro l; unfold mkL; split
    · have := ih (l - up1000 (l * r)); simp; omega
    · simp

theorem mkL_head (rs : List Int) (l : Int) : (mkL l rs).getD 0 0 = l := by
  cases rs <;> (unfold mkL; split <;> simp)

theorem mkL_two (rs : List Int) (l : Int) (h : 0 < l) : 2 ≤ (mkL l rs).length := by
  cases rs with
  | nil => unfold mkL; simp [h]
  | cons r rs => unfold mkL; rw [if_pos h]; have := (mkL_len rs (l - up1000 (l * r))).1; simp; omega

theorem getD_cons_succ (x : Int) (xs : List Int) (i : Nat) : (x :: xs).getD (i + 1) 0 = xs.getD i 0 := by simp [List.getD]

/-- all that a table asks of its lives, from l on -/
theorem mkL_good (rs : List Int) (hr : ∀ r ∈ rs, 0 ≤ r ∧ r ≤ 1000) : ∀ l : Int, 0 ≤ l →
    (mkL l rs).getD ((mkL l rs).length - 1) 0 = 0 ∧ (∀ i, i < (mkL l rs).length → 1 ≤ i → (mkL l rs).getD i 0 ≤ (mkL l rs).getD (i - 1) 0) ∧ (∀ i, i + 1 < (mkL l rs).length → 1 ≤ (mkL l rs).getD i 0) := by
  induction rs with
  | nil =>
    intro l hl
    unfold mkL; split
    · next h =>
      refine ⟨by simp, ?_, ?_⟩
      · intro i hi h1
        obtain rfl : i = 1 := by simp at hi; omega
        simp; omega
      · intro i hi
        obtain rfl : i = 0 := by simp at hi; omega
        simp; omega
    · next h =>
      obtain rfl : l = 0 := by omega
      refine ⟨by simp, ?_, ?_⟩
      · intro i hi h1; simp at hi; omega
      · intro i hi; simp at hi
  | cons r rs ih =>
    intro l hl
    obtain ⟨r0, r1⟩ := hr r List.mem_cons_self
    have ub := up_bd l r hl r0 r1
    obtain ⟨i1, i2, i3⟩ := ih (fun q hq => hr q (List.mem_cons_of_mem _ hq)) (l - up1000 (l * r)) (by omega)
    have hd := mkL_head rs (l - up1000 (l * r))
    have hlen := (mkL_len rs (l - up1000 (l * r))).1
    unfold mkL; split
    · next h =>
      generalize mkL (l - up1000 (l * r)) rs = ys at *
      refine ⟨?_, ?_, ?_⟩
      · rw [List.length_cons, show ys.length + 1 - 1 = (ys.length - 1) + 1 by omega, getD_cons_succ]; exact i1
      · intro i hi h1
        obtain ⟨j, rfl⟩ : ∃ j, i = j + 1 := ⟨i - 1, by omega⟩
        rw [getD_cons_succ]
        by_cases hj : j = 0
        · subst hj; simp at hd ⊢; omega
        · obtain ⟨q, rfl⟩ : ∃ q, j = q + 1 := ⟨j - 1, by omega⟩
          rw [show q + 1 + 1 - 1 = q + 1 by omega, getD_cons_succ]
          have := i2 (q + 1) (by simp at hi; omega) (by omega)
          simpa using this
      · intro i hi
        cases i with
        | zero => simp; omega
        | succ j => rw [getD_cons_succ]; exact i3 j (by simp at hi; omega)
    · next h =>
      obtain rfl : l = 0 := by omega
      refine ⟨by simp, ?_, ?_⟩
      · intro i hi h1; simp at hi; omega
      · intro i hi; simp at hi

theorem mkL_tab (f l : Int) (rs : List Int) (hf0 : 0 ≤ f) (hf1 : f ≤ 100) (hl0 : 1 ≤ l) (hl1 : l ≤ 1000000) (hn : rs.length ≤ 118) (hn2 : (rs.length : Int) ≤ 149 - f) (hr : ∀ r ∈ rs, 0 ≤ r ∧ r ≤ 1000) : LTab f (mkL l rs) := by
  obtain ⟨g1, g2, g3⟩ := mkL_good rs hr l (by omega)
  obtain ⟨n1, n2⟩ := mkL_len rs l
  have n3 := mkL_two rs l (by omega)
  have hd := mkL_head rs l
  refine ⟨⟨hf0, hf1⟩, ⟨n3, by omega⟩, by omega, by rw [hd]; omega, g1, fun i hi h1 => ⟨g2 i hi h1, g3 i⟩⟩

/-- one more year: the deaths are the rate's part, rounded up -/
theorem mkL_deaths (rs : List Int) : ∀ (l : Int) (i : Nat), i < rs.length → 0 < (mkL l rs).getD i 0 → (mkL l rs).getD i 0 - (mkL l rs).getD (i + 1) 0 = up1000 ((mkL l rs).getD i 0 * rs.getD i 0) := by
  induction rs with
  | nil => intro l i hi; simp at hi
  | cons r rs ih =>
    intro l i hi
    unfold mkL; split
    · next h =>
      cases i with
      | zero => intro _; rw [getD_cons_succ, mkL_head]; simp; omega
      | succ j => rw [getD_cons_succ, getD_cons_succ, getD_cons_succ]; exact ih _ j (by simpa using hi)
    · next h =>
      intro hp
      exfalso
      cases i with
      | zero => simp at hp; omega
      | succ j => simp at hp

/-- k years on, still alive: what has been laid and what is to come -/
theorem mkL_split (rs : List Int) (l c : Int) (pre : List Int) (k : Nat) (h : pre ++ mkL c (rs.drop k) = mkL l rs) (hk : k < rs.length) (hc : 0 < c) : (pre ++ [c]) ++ mkL (c - up1000 (c * rs.getD k 0)) (rs.drop (k + 1)) = mkL l rs := by
  rw [← h, List.drop_eq_getElem_cons hk]
  show _ = pre ++ mkL c (rs[k] :: rs.drop (k + 1))
  rw [mkL, if_pos hc]
  simp [List.getD, hk]

theorem mkL_stop (rs : List Int) : mkL 0 rs = [0] := by cases rs <;> simp [mkL]

open Go.ChangeShapes Go.WideShapes Go.ChangeAt Go.RowKit

theorem Ints.on {w w1 : World} {a : Option Addr} {l : Nat} {xs : List Int} (h : Ints w a l xs) (hb : Below w.heap.size w w1) : Ints w1 a l xs := h.below hb h.lt

/-- a number of the list, in its cell -/
theorem Ints.at {w : World} {a : Option Addr} {l : Nat} {xs : List Int} (h : Ints w a l xs) (hl : 0 < l) : ∃ b off, a = some ⟨b, off, none⟩ ∧ b < w.heap.size ∧ ∀ i, i < l → w.cell? ⟨b, off + i, none⟩ = some (.int .i64 (xs.getD i 0)) := by
  rcases h.cells with h0 | ⟨b, off, rfl, hc⟩
  · omega
  · exact ⟨b, off, rfl, block_lt (hc 0 hl), hc⟩

theorem ltB_no {f : Int} {xs : List Int} (h : ltB f xs = true → False) : ltB f xs = false := by
  rw [Bool.eq_false_iff]; exact h

theorem end_any (f : Int) (xs : List Int) (a : Option Addr) (l c : Nat) (w : World) (hl : l ≤ 1000000) (h0 : 0 ≤ f) (h1 : f ≤ 1000) :
    Calls Tryz.prog 115 #[.agg #[.int .i64 f, .slice a l c]] w fun e w' => e = .returned (.int .i64 (f + l - 1)) ∧ Below w.heap.size w w' := by
  go_enter Tryz.func115, Tryz.ntmps115
  go_wp2_with fail
  go_ret
  exact ⟨rfl, (Below.refl _ _).alloc (Nat.le_refl _) _⟩

theorem isL_spec (f : Int) (xs : List Int) (a : Option Addr) (l c : Nat) (w : World) (h : Ints w a l xs) :
    Calls Tryz.prog 112 #[.agg #[.int .i64 f, .slice a l c]] w fun e w' => e = .returned (.bool (ltB f xs)) ∧ Below w.heap.size w w' := by
  have hm := h.max
  have HL := Lib.hid h.len
  by_cases c1 : (l : Int) < 2
  · have HR : Hid (ltB f xs = false) := Lib.hid (ltB_no fun e => by have := ((ltB_iff _ _).1 e).2.1.1; have := HL.out; omega)
    go_enter Tryz.func112, Tryz.ntmps112
    go_wp2_with fail
    go_ret
    exact ⟨ret_bool HR.out.symm, (Below.refl _ _).alloc (Nat.le_refl _) _⟩
  by_cases c2 : (120 : Int) < l
  · have HR : Hid (ltB f xs = false) := Lib.hid (ltB_no fun e => by have := ((ltB_iff _ _).1 e).2.1.2; have := HL.out; omega)
    go_enter Tryz.func112, Tryz.ntmps112
    go_wp2_with fail
    go_ret
    exact ⟨ret_bool HR.out.symm, (Below.refl _ _).alloc (Nat.le_refl _) _⟩
  by_cases c3 : inB f 0 100 = true
  case neg =>
    have HR : Hid (ltB f xs = false) := Lib.hid (ltB_no fun e => by have := ((ltB_iff _ _).1 e).1; rw [inB_iff] at c3; exact c3 this)
    go_enter Tryz.func112, Tryz.ntmps112
    go_wp2_with (go_at_call 82; refine (in_any _ _ _ _).mono ?_; rintro e w' ⟨rfl, rfl⟩)
    go_ret
    exact ⟨ret_bool HR.out.symm, (Below.refl _ _).alloc (Nat.le_refl _) _⟩
  obtain ⟨f0, f1⟩ := (inB_iff _ _ _).1 c3
  obtain ⟨b, off, rfl, hb, hc⟩ := h.at (by omega)
  have hx0 := hc 0 (by omega)
  have hxl := hc (l - 1) (by omega)
  obtain ⟨u, hu⟩ : ∃ u, xs.getD 0 0 = u := ⟨_, rfl⟩
  obtain ⟨v, hv⟩ : ∃ v, xs.getD (l - 1) 0 = v := ⟨_, rfl⟩
  rw [hu, Nat.add_zero] at hx0
  rw [hv] at hxl
  have hn1 : ((l : Int) - 1).toNat = l - 1 := by omega
  have HU := Lib.hid hu
  have HV := Lib.hid hv
  have HC := Lib.hid hc
  have H := Lib.hid h
  clear hu hv hc h
  by_cases c4 : inB u 1 1000000 = true
  case neg =>
    have HR : Hid (ltB f xs = false) := Lib.hid (ltB_no fun e => by have := ((ltB_iff _ _).1 e).2.2.2.1; rw [HU.out] at this; rw [inB_iff] at c4; exact c4 this)
    go_enter Tryz.func112, Tryz.ntmps112
    go_wp2_with (go_at_call 82; refine (in_any _ _ _ _).mono ?_; rintro e w' ⟨rfl, rfl⟩)
    go_ret
    exact ⟨ret_bool HR.out.symm, (Below.refl _ _).alloc (Nat.le_refl _) _⟩
  by_cases c5 : v = 0
  case neg =>
    have HR : Hid (ltB f xs = false) := Lib.hid (ltB_no fun e => by have := ((ltB_iff _ _).1 e).2.2.2.2.1; rw [HL.out, HV.out] at this; exact c5 this)
    have hne : (v != 0) = true := by simpa using c5
    clear c5
    go_enter Tryz.func112, Tryz.ntmps112
    go_wp2_with (go_at_call 82; refine (in_any _ _ _ _).mono ?_; rintro e w' ⟨rfl, rfl⟩)
    go_ret
    exact ⟨ret_bool HR.out.symm, (Below.refl _ _).alloc (Nat.le_refl _) _⟩
  subst c5
  by_cases c6 : (150 : Int) < f + l - 1
  · have HR : Hid (ltB f xs = false) := Lib.hid (ltB_no fun e => by have := ((ltB_iff _ _).1 e).2.2.1; have := HL.out; omega)
    go_enter Tryz.func112, Tryz.ntmps112
    go_wp2_with (go_at_call 82; refine (in_any _ _ _ _).mono ?_; rintro e w' ⟨rfl, rfl⟩)
    go_ret
    exact ⟨ret_bool HR.out.symm, (Below.refl _ _).alloc (Nat.le_refl _) _⟩
  obtain ⟨u0, u1⟩ := (inB_iff _ _ _).1 c4
  have q3 : IntKind.i64.wrap ((l : Int) - 1) = (l : Int) - 1 := IntWalk.i64_in _ (by omega)
  go_enter Tryz.func112, Tryz.ntmps112
  go_wp2_with (go_at_call 82; refine (in_any _ _ _ _).mono ?_; rintro e w' ⟨rfl, rfl⟩)
  have HB : Hid (Below w.heap.size w (w.alloc (.cells #[.int .i64 f, .slice (some ⟨b, off, none⟩) l c] 26))) := Lib.hid ((Below.refl _ _).alloc (Nat.le_refl _) _)
  have HI := Lib.hid (H.out.on HB.out)
  have HN : Hid ((w.alloc (.cells #[.int .i64 f, .slice (some ⟨b, off, none⟩) l c] 26)).cell? ⟨w.heap.size, 1, none⟩ = some (.slice (some ⟨b, off, none⟩) l c)) := Lib.hid (World.cell?_alloc_new _ _ _ _)
  go_loopw [4] (fun i wr => ∃ k : Nat, 1 ≤ k ∧ k ≤ l ∧ i = .int .i64 k ∧ Hid (∀ j, 1 ≤ j → j < k → xs.getD j 0 ≤ xs.getD (j - 1) 0 ∧ (j + 1 < l → 1 ≤ xs.getD j 0)) ∧ Hid (∃ n, wr = (w.alloc (.cells #[.int .i64 f, .slice (some ⟨b, off, none⟩) l c] 26)).drewN n)) (fun i _ => l - (intOf i).toNat)
  case atStart => exact ⟨1, by omega, by omega, rfl, Lib.hid (fun j _ _ => by omega), Lib.hid ⟨0, rfl⟩⟩
  case round =>
    obtain ⟨k, hk1, hk, rfl, HK, HW⟩ := hrel
    have hbox : wr.cell? ⟨w.heap.size, 1, none⟩ = some (.slice (some ⟨b, off, none⟩) l c) := by obtain ⟨n, rfl⟩ := HW.out; exact HN.out
    have hcell : ∀ i, i < l → wr.cell? ⟨b, off + i, none⟩ = some (.int .i64 (xs.getD i 0)) := by
      obtain ⟨n, rfl⟩ := HW.out
      intro i hi
      exact (HB.out.cell (p := ⟨b, off + i, none⟩) hb).trans (HC.out i hi)
    by_cases hlt : k < l
    · have hx := hcell k hlt
      have hy := hcell (k - 1) (by omega)
      obtain ⟨x, hx0⟩ : ∃ x, xs.getD k 0 = x := ⟨_, rfl⟩
      obtain ⟨y, hy0⟩ : ∃ y, xs.getD (k - 1) 0 = y := ⟨_, rfl⟩
      rw [hx0] at hx
      rw [hy0] at hy
      have HX := Lib.hid hx0
      have HY := Lib.hid hy0
      have q1 : IntKind.i64.wrap ((k : Int) - 1) = (k : Int) - 1 := IntWalk.i64_in _ (by omega)
      have q2 : ((k : Int) - 1).toNat = k - 1 := by omega
      have q4 : k - 1 < l := by omega
      clear hx0 hy0 hcell
      by_cases h1 : y < x
      · have HR : Hid (ltB f xs = false) := Lib.hid (ltB_no fun e => by have := (((ltB_iff _ _).1 e).2.2.2.2.2 k (by rw [HL.out]; exact hlt) hk1).1; rw [HX.out, HY.out] at this; omega)
        go_wp2_with fail
        go_quiet (fail)
        go_wp2_with fail
        go_ret
        exact ⟨ret_bool HR.out.symm, by obtain ⟨n, hn⟩ := HW.out; rw [hn]; exact below_drewN (below_drewN HB.out _) _⟩
      · have h1' : decide (y < x) = false := by simpa using h1
        by_cases h2 : (k : Int) < (l : Int) - 1
        · by_cases h3 : x < 1
          · have HR : Hid (ltB f xs = false) := Lib.hid (ltB_no fun e => by have := (((ltB_iff _ _).1 e).2.2.2.2.2 k (by rw [HL.out]; exact hlt) hk1).2 (by rw [HL.out]; omega); rw [HX.out] at this; omega)
            go_wp2_with fail
            go_quiet (fail)
            go_wp2_with fail
            go_ret
            exact ⟨ret_bool HR.out.symm, by obtain ⟨n, hn⟩ := HW.out; rw [hn]; exact below_drewN (below_drewN HB.out _) _⟩
          · have h3' : decide (x < 1) = false := by simpa using h3
            go_wp2_with fail
            go_quiet (fail)
            go_wp2_with fail
            go_roundw
            case rel => exact ⟨k + 1, by omega, by omega, by go_num, Lib.hid (fun j j1 j2 => by
              by_cases hj : j = k
              · subst hj; rw [HX.out, HY.out]; omega
              · exact HK.out j j1 (by omega)), Lib.hid (by obtain ⟨n, hn⟩ := HW.out; exact ⟨n + nq, by rw [hn, World.drewN_drewN]⟩)⟩
            case measure => simp [intOf]; omega
        · have h2' : decide ((k : Int) < (l : Int) - 1) = false := by simpa using h2
          go_wp2_with fail
          go_quiet (fail)
          go_wp2_with fail
          go_roundw
          case rel => exact ⟨k + 1, by omega, by omega, by go_num, Lib.hid (fun j j1 j2 => by
            by_cases hj : j = k
            · subst hj; rw [HX.out, HY.out]; omega
            · exact HK.out j j1 (by omega)), Lib.hid (by obtain ⟨n, hn⟩ := HW.out; exact ⟨n + nq, by rw [hn, World.drewN_drewN]⟩)⟩
          case measure => simp [intOf]; omega
    · clear hcell
      obtain rfl : k = l := by omega
      have HR : Hid (ltB f xs = true) := Lib.hid (ltB_t ⟨⟨f0, f1⟩, by have := HL.out; omega, by have := HL.out; omega, by rw [HU.out]; exact ⟨u0, u1⟩, by rw [HL.out]; exact HV.out, fun i hi h1 => by rw [HL.out] at hi ⊢; exact HK.out i h1 hi⟩)
      go_wp2_with fail
      go_ret
      exact ⟨ret_bool HR.out.symm, by obtain ⟨n, hn⟩ := HW.out; rw [hn]; exact below_drewN HB.out _⟩

open Go.ChangeShapes Go.WideShapes Go.ChangeAt Go.RowKit

theorem isL_impl (f : Int) (xs : List Int) (a : Option Addr) (l c : Nat) (w : World) (h : Ints w a l xs) (hlc : l ≤ c) :
    Calls Tryz.prog 134 #[.agg #[.int .i64 f, .slice a l c]] w fun e w' => e = .returned (.bool (ltB f xs)) ∧ Below w.heap.size w w' := by
  have hm := h.max
  have HL := Lib.hid h.len
  by_cases c3 : inB f 0 100 = true
  case neg =>
    have HR : Hid (ltB f xs = false) := Lib.hid (ltB_no fun e => by have := ((ltB_iff _ _).1 e).1; rw [inB_iff] at c3; exact c3 this)
    go_enter Tryz.func134, Tryz.ntmps134
    go_wp2_with (go_at_call 87; refine (within_any _ _ _ _).mono ?_; rintro e w' ⟨rfl, rfl⟩)
    go_ret
    exact ⟨ret_bool HR.out.symm, (Below.refl _ _).alloc (Nat.le_refl _) _⟩
  obtain ⟨f0, f1⟩ := (inB_iff _ _ _).1 c3
  by_cases c1 : inB (l : Int) 2 120 = true
  case neg =>
    have HR : Hid (ltB f xs = false) := Lib.hid (ltB_no fun e => by have := ((ltB_iff _ _).1 e).2.1; rw [inB_iff] at c1; have := HL.out; omega)
    go_enter Tryz.func134, Tryz.ntmps134
    go_wp2_with (go_at_call 87; refine (within_any _ _ _ _).mono ?_; rintro e w' ⟨rfl, rfl⟩)
    go_ret
    exact ⟨ret_bool HR.out.symm, (Below.refl _ _).alloc (Nat.le_refl _) _⟩
  obtain ⟨l0, l1⟩ := (inB_iff _ _ _).1 c1
  obtain ⟨b, off, rfl, hb, hc⟩ := h.at (by omega)
  have HC := Lib.hid hc
  have H := Lib.hid h
  clear hc h
  by_cases c6 : (150 : Int) < f + l - 1
  · have HR : Hid (ltB f xs = false) := Lib.hid (ltB_no fun e => by have := ((ltB_iff _ _).1 e).2.2.1; have := HL.out; omega)
    go_enter Tryz.func134, Tryz.ntmps134
    go_wp2_with (first | (go_at_call 87; refine (within_any _ _ _ _).mono ?_; rintro e w' ⟨rfl, rfl⟩) | (go_at_call 115; refine (end_any _ xs _ _ _ _ (by omega) (by omega) (by omega)).mono ?_; rintro e w1 ⟨rfl, hb1⟩; have HB1 := Lib.hid (((Below.refl w.heap.size w).alloc (Nat.le_refl _) (.cells #[.int .i64 f, .slice (some ⟨b, off, none⟩) l c] 26)).trans (hb1.mono (by simp))); clear hb1))
    go_ret
    exact ⟨ret_bool HR.out.symm, HB1.out⟩
  have q3 : IntKind.i64.wrap ((l : Int) - 1) = (l : Int) - 1 := IntWalk.i64_in _ (by omega)
  have q4 : ((l : Int) - 1).toNat = l - 1 := by omega
  go_enter Tryz.func134, Tryz.ntmps134
  go_wp2_with (first | (go_at_call 87; refine (within_any _ _ _ _).mono ?_; rintro e w' ⟨rfl, rfl⟩) | (go_at_call 115; refine (end_any _ xs _ _ _ _ (by omega) (by omega) (by omega)).mono ?_; rintro e w1 ⟨rfl, hb1⟩; have HB1 := Lib.hid (((Below.refl w.heap.size w).alloc (Nat.le_refl _) (.cells #[.int .i64 f, .slice (some ⟨b, off, none⟩) l c] 26)).trans (hb1.mono (by simp))); have hbox : w1.cell? ⟨w.heap.size, 1, none⟩ = some (.slice (some ⟨b, off, none⟩) l c) := (hb1.cell (p := ⟨w.heap.size, 1, none⟩) (by simp)).trans (World.cell?_alloc_new _ _ _ _); clear hb1))
  have hcell : ∀ i, i < l → w1.cell? ⟨b, off + i, none⟩ = some (.int .i64 (xs.getD i 0)) := fun i hi => (HB1.out.cell (p := ⟨b, off + i, none⟩) hb).trans (HC.out i hi)
  have HCW := Lib.hid hcell
  clear hcell
  go_loop [4, 32] (fun s i => ∃ (k : Nat) (p : Int), k ≤ l - 1 ∧ i = .int .i64 k ∧ s = .int .i64 p ∧ p ≤ 1000000 ∧ Hid (k = 0 ∧ p = 1000000 ∨ 1 ≤ k ∧ p = xs.getD (k - 1) 0) ∧ Hid (∀ j, j < k → 1 ≤ xs.getD j 0 ∧ (1 ≤ j → xs.getD j 0 ≤ xs.getD (j - 1) 0) ∧ xs.getD j 0 ≤ 1000000)) (fun _ i => l - (intOf i).toNat)
  case atStart => exact ⟨0, 1000000, Nat.zero_le _, rfl, rfl, by omega, Lib.hid (.inl ⟨rfl, rfl⟩), Lib.hid (fun j hj => by omega)⟩
  case round =>
    obtain ⟨k, p, hk, rfl, rfl, hp, HP, HK⟩ := hrel
    by_cases hlt : k < l - 1
    · have hx := HCW.out k (by omega)
      obtain ⟨x, hx0⟩ : ∃ x, xs.getD k 0 = x := ⟨_, rfl⟩
      rw [hx0] at hx
      have HX := Lib.hid hx0
      have hkl : (k : Int) < (l : Int) - 1 := by omega
      have hkc : k < c := by omega
      clear hx0
      by_cases hin : inB x 1 p = true
      · obtain ⟨x0, x1⟩ := (inB_iff _ _ _).1 hin
        go_wp2_with (go_at_call 87; refine (within_any _ _ _ _).mono ?_; rintro e w' ⟨rfl, rfl⟩)
        go_round
        case rel => exact ⟨k + 1, x, by omega, by go_num, rfl, by omega, Lib.hid (.inr ⟨by omega, by simpa using HX.out.symm⟩), Lib.hid (fun j hj => by
          by_cases e : j = k
          · subst e
            rw [HX.out]
            refine ⟨x0, fun h1 => ?_, by omega⟩
            rcases HP.out with ⟨h0, _⟩ | ⟨_, h2⟩
            · omega
            · omega
          · exact HK.out j (by omega))⟩
        case measure => simp [intOf]; omega
      · have HR : Hid (ltB f xs = false) := Lib.hid (ltB_no fun e => by
          have e := (ltB_iff _ _).1 e
          rw [inB_iff] at hin
          have h1 := e.pos k (by rw [HL.out]; omega)
          have h2 := e.le k
          rw [HX.out] at h1 h2
          rcases HP.out with ⟨_, rfl⟩ | ⟨hk1, rfl⟩
          · exact hin ⟨h1, h2⟩
          · have h3 := e.mono (k - 1) k (by omega)
            rw [HX.out] at h3
            exact hin ⟨h1, h3⟩)
        go_wp2_with (go_at_call 87; refine (within_any _ _ _ _).mono ?_; rintro e w' ⟨rfl, rfl⟩)
        go_ret
        exact ⟨ret_bool HR.out.symm, HB1.out⟩
    · have hkl : ¬ (k : Int) < (l : Int) - 1 := by omega
      have hx := HCW.out (l - 1) (by omega)
      obtain ⟨x, hx0⟩ : ∃ x, xs.getD (l - 1) 0 = x := ⟨_, rfl⟩
      rw [hx0] at hx
      have HX := Lib.hid hx0
      have q5 : l - 1 < c := by omega
      clear hx0
      by_cases h0 : x = 0
      · subst h0
        have HR : Hid (ltB f xs = true) := Lib.hid (ltB_t (by
          have hl := HL.out
          have K := HK.out
          refine ⟨⟨f0, f1⟩, by omega, by omega, ?_, by rw [hl]; exact HX.out, fun i hi h1 => ?_⟩
          · obtain ⟨g1, _, g3⟩ := K 0 (by omega); exact ⟨g1, g3⟩
          · by_cases e : i + 1 < l
            · obtain ⟨g1, g2, g3⟩ := K i (by omega); exact ⟨g2 h1, fun _ => g1⟩
            · obtain rfl : i = l - 1 := by omega
              rw [HX.out]
              obtain ⟨g1, _, _⟩ := K (l - 1 - 1) (by omega)
              exact ⟨by omega, fun hh => by omega⟩))
        go_wp2_with fail
        go_ret
        exact ⟨ret_bool HR.out.symm, HB1.out⟩
      · have HR : Hid (ltB f xs = false) := Lib.hid (ltB_no fun e => by
          have := ((ltB_iff _ _).1 e).2.2.2.2.1
          rw [HL.out, HX.out] at this
          exact h0 this)
        have h0' : (x == 0) = false := by simpa using h0
        clear h0
        go_wp2_with fail
        go_ret
        exact ⟨ret_bool HR.out.symm, HB1.out⟩

end Go.Proofs.YtdlfofdibooidaaGreat

/- The draws of chapter 4: numbers, and a list with a rate, whatever they are. -/
namespace Go.Proofs.YtdlfofdibooidaaGreat
open Go.ChangeShapes Go.WideShapes Go.ChangeAt Go.RowKit
set_option linter.unusedVariables false
set_option maxRecDepth 100000

theorem bigI_any (a : Option Addr) (l c : Nat) (w : World) : Calls Tryz.prog 11 #[.slice a l c] w fun e w' => e = .returned (.bool (decide (4096 < (l : Int)))) ∧ w = w' := by
  go_enter Tryz.func11, Tryz.ntmps11
  go_wp2
  go_ret
  exact ⟨rfl, rfl⟩

theorem rate_r (B : Nat) (a : Option Addr) (l c : Nat) (z : List Int) (w : World) (h : Ready B a l c z w) :
    Calls Tryz.prog 128 #[.pointer (some ⟨B, 0, none⟩)] w (NumPost B a l c z Any w) := by
  have HS := Lib.hid h
  have HO := Lib.hid (But.refl B w)
  clear h
  go_enter Tryz.func128, Tryz.ntmps128
  go_wp2_with (first | (go_at_call 58; refine (next_r _ _ _ _ _ _ _ HS.out).mono ?_; rintro e w1 ⟨r, rfl, hd, ho, hs⟩; have HO := Lib.hid (HO.out.trans ho); have HS := Lib.hid hs; clear ho hs hd) | (go_at_call 77; ((with_reducible refine (pick4 B _ _ _ _ _ _ HS.out).mono ?_); rintro e w1 ⟨r, rfl, hd, ho, hs⟩; have HO := Lib.hid (HO.out.trans ho); have HS := Lib.hid hs; clear ho hs hd)) | (go_at_call 77; ((with_reducible refine (pick5 B _ _ _ _ _ _ _ HS.out).mono ?_); rintro e w1 ⟨r, rfl, hd, ho, hs⟩; have HO := Lib.hid (HO.out.trans ho); have HS := Lib.hid hs; clear ho hs hd)))
  all_goals
    go_ret
    exact ⟨_, rfl, trivial, HO.out, HS.out⟩

def ThreePost (w : World) (e : Ending) (w' : World) : Prop := ∃ x y z, e = .returned (.tuple #[.int .i64 x, .int .i64 y, .int .i64 z]) ∧ Below w.heap.size w w'

/-! ### a list and a rate -/

def LrPost (w : World) (e : Ending) (w' : World) : Prop := ∃ a l c xs r, e = .returned (.tuple #[.slice a l c, .int .i64 r]) ∧ Ints w' a l xs ∧ l ≤ 4096 ∧ Below w.heap.size w w'

def zeroL (l : Nat) : Obj := .cells ((List.replicate l (0 : Int)).map (Value.int .i64)).toArray 2

theorem make_zeroL (l : Nat) (n : Int) (h : n = l) (hl : l ≤ 1048576) (w : World) :
    (Instr.makeSlice 24 (.int .i64 n) (.int .i64 n)).run Tryz.prog w = .ok (.slice (some ⟨w.heap.size, 0, none⟩) l l) (w.alloc (zeroL l)) := by
  subst h; exact make_ints l hl w

theorem Blk.newL (w : World) (l : Nat) : Blk (w.alloc (zeroL l)) w.heap.size (List.replicate l 0) := Blk.new w (List.replicate l 0)

theorem one_newD (w : World) (x : Int) : ∀ j u, [Value.int .i64 x][j]? = some u → (w.alloc (.cells #[.int .i64 x] 2)).cell? ((⟨w.heap.size, 0, none⟩ : Addr).add j) = some u := by
  intro j u hj
  match j, hj with
  | 0, hj => simp at hj; subst hj; simp [Addr.add]

theorem OwnI.alloc4 {base : Nat} {w : World} {v : Value} {xs : List Int} (h : OwnI base w v xs) (o : Obj) : OwnI base (w.alloc o) v xs := h.same fun k _ hl => Below.heap_alloc _ _ _ hl

/-- a list keeps its numbers while the source of the draws turns -/
theorem Ints.but4 {w w' : World} {a : Option Addr} {l B : Nat} {xs : List Int} (h : Ints w a l xs) (ho : But B w w') (hne : ∀ x, a = some x → x.block ≠ B) : Ints w' a l xs := by
  have hlt := h.lt
  obtain ⟨h1, h2, h3⟩ := h
  refine ⟨h1, h2, ?_⟩
  rcases h3 with h0 | ⟨b, off, rfl, hc⟩
  · exact .inl h0
  · by_cases hl : l = 0
    · exact .inl hl
    · exact .inr ⟨b, off, rfl, fun i hi => by rw [ho.cell (p := ⟨b, off + i, none⟩) (hlt ⟨b, off, none⟩ rfl (by omega)) (hne ⟨b, off, none⟩ rfl)]; exact hc i hi⟩

theorem OwnI.ints4 {base : Nat} {w : World} {v : Value} {xs : List Int} (h : OwnI base w v xs) (hm : xs.length ≤ 4096) : ∃ a c, v = .slice a xs.length c ∧ Ints w a xs.length xs ∧ ∀ x, a = some x → base ≤ x.block := by
  have hh := h
  obtain ⟨h0, ⟨rfl, hn⟩ | ⟨g, cap, cur, rfl, hg, hb, r⟩⟩ := h
  · rw [hn]
    exact ⟨none, 0, rfl, ⟨by simpa using hn, by omega, .inl rfl⟩, fun x hx => by cases hx⟩
  · refine ⟨_, cap, rfl, ⟨rfl, by omega, .inr ⟨g, 0, rfl, fun i hi => ?_⟩⟩, fun x hx => by cases hx; exact hg⟩
    rw [Nat.zero_add, hh.cellAt i (by omega)]
    simp [List.getD, hi]

end Go.Proofs.YtdlfofdibooidaaGreat

/- The small functions of chapter 1 that compute with numbers (ranges, rounding): what each of their calls returns, and that it leaves memory as it was. | Lists of integers that are only read: sums, ranges, equality; what each call returns. | DivideDown, DivideUp and PerMille of the program and of its model: what each call returns, one Lean function for both. | CommonFactor of the program and of its model: what each call returns (the greatest common divisor), one Lean function for both. -/
import Derived.Test.YtmnddplkmljeaaaBase
namespace Go.Proofs.Ytmnddplkmljeaaa
open Go.ChangeShapes Go.WideShapes Go.ChangeAt Go.RowKit
set_option linter.unusedVariables false


/-! ### plain numbers -/

theorem down_of (a b : Int) (hb : 1 ≤ b) : (a.tmod b < 0 → a.tdiv b - 1 = a / b) ∧ (¬ a.tmod b < 0 → a.tdiv b = a / b) := by
  have h1 := Int.mul_tdiv_add_tmod a b
  have h2 := Int.mul_ediv_add_emod a b
  have h3 := Int.emod_nonneg a (show b ≠ 0 by omega)
  have h4 := Int.emod_lt_of_pos a (show 0 < b by omega)
  have h5 : a.tmod b < b := Int.tmod_lt_of_pos a (by omega)
  have h6 : -b < a.tmod b := by
    have := Int.tmod_lt_of_pos (-a) (show 0 < b by omega)
    rw [Int.neg_tmod] at this; omega
  constructor
  · intro h
    have e : b * (a.tdiv b - 1 - a / b) = a % b - a.tmod b - b := by rw [Int.mul_sub, Int.mul_sub]; omega
    have l : a.tdiv b - 1 - a / b < 1 := by
      refine Int.lt_of_mul_lt_mul_left (a := b) ?_ (by omega); omega
    have g : -1 < a.tdiv b - 1 - a / b := by
      refine Int.lt_of_mul_lt_mul_left (a := b) ?_ (by omega); omega
    omega
  · intro h
    have e : b * (a.tdiv b - a / b) = a % b - a.tmod b := by rw [Int.mul_sub]; omega
    have l : a.tdiv b - a / b < 1 := by
      refine Int.lt_of_mul_lt_mul_left (a := b) ?_ (by omega); omega
    have g : -1 < a.tdiv b - a / b := by
      refine Int.lt_of_mul_lt_mul_left (a := b) ?_ (by omega); omega
    omega

theorem div_bd (a b M : Int) (hb : 1 ≤ b) (hM : 0 ≤ M) (h1 : -M ≤ a) (h2 : a ≤ M) : -M ≤ a / b ∧ a / b ≤ M := by
  constructor
  · rw [Int.le_ediv_iff_mul_le (by omega)]
    have : M * 1 ≤ M * b := Int.mul_le_mul_of_nonneg_left hb hM
    rw [Int.neg_mul]; omega
  · have := Int.ediv_le_ediv (show 0 < b by omega) h2
    have := Int.ediv_le_self b hM
    omega

theorem tdiv_bd (a b M : Int) (hb : 1 ≤ b) (hM : 0 ≤ M) (h1 : -M ≤ a) (h2 : a ≤ M) : -M ≤ a.tdiv b ∧ a.tdiv b ≤ M := by
  have h := Int.natAbs_tdiv_le_natAbs a b
  omega

/-! ### the walks -/

/-- whether a number lies in a range -/
def inB (n lo hi : Int) : Bool := decide (lo ≤ n) && decide (n ≤ hi)

theorem inB_t {n lo hi : Int} (h1 : lo ≤ n) (h2 : n ≤ hi) : inB n lo hi = true := by simp [inB, h1, h2]

theorem inB_f {n lo hi : Int} (h : ¬ (lo ≤ n ∧ n ≤ hi)) : inB n lo hi = false := by
  unfold inB; rw [Bool.eq_false_iff]; intro hh; simp at hh; exact h hh

theorem inB_iff (n lo hi : Int) : inB n lo hi = true ↔ lo ≤ n ∧ n ≤ hi := by simp [inB]

/-- whether a number is money -/
def monB (n : Int) : Bool := inB n (-1000000000000) 1000000000000

theorem monB_iff (n : Int) : monB n = true ↔ -1000000000000 ≤ n ∧ n ≤ 1000000000000 := inB_iff _ _ _

theorem in_any (n lo hi : Int) (w : World) : Calls Try.prog 82 #[.int .i64 n, .int .i64 lo, .int .i64 hi] w fun e w' => e = .returned (.bool (inB n lo hi)) ∧ w = w' := by
  by_cases h1 : lo ≤ n
  all_goals
    go_enter Try.func82, Try.ntmps82
    go_wp2
    go_ret
    exact ⟨ret_bool (by simp [inB]; omega), rfl⟩

theorem within_any (n lo hi : Int) (w : World) : Calls Try.prog 75 #[.int .i64 n, .int .i64 lo, .int .i64 hi] w fun e w' => e = .returned (.bool (inB n lo hi)) ∧ w = w' := by
  by_cases h1 : lo ≤ n
  all_goals
    go_enter Try.func75, Try.ntmps75
    go_wp2
    go_ret
    exact ⟨ret_bool (by simp [inB]; omega), rfl⟩

/-- The slice (a, l) holds the numbers xs. -/
structure Ints (w : World) (a : Option Addr) (l : Nat) (xs : List Int) : Prop where
  len : xs.length = l
  max : l ≤ 4611686018427387904
  cells : l = 0 ∨ ∃ b off, a = some ⟨b, off, none⟩ ∧ ∀ i, i < l → w.cell? ⟨b, off + i, none⟩ = some (.int .i64 (xs.getD i 0))

theorem Ints.below {w w' : World} {a : Option Addr} {l B : Nat} {xs : List Int} (h : Ints w a l xs) (hb : Below B w w') (hB : ∀ x, a = some x → 0 < l → x.block < B) : Ints w' a l xs := by
  refine ⟨h.len, h.max, ?_⟩
  rcases h.cells with h0 | ⟨b, off, rfl, hc⟩
  · exact .inl h0
  · by_cases hz : l = 0
    · exact .inl hz
    · exact .inr ⟨b, off, rfl, fun i hi => by rw [hb.cell (p := ⟨b, off + i, none⟩) (hB ⟨b, off, none⟩ rfl (by omega))]; exact hc i hi⟩

theorem Ints.drewN {w : World} {a : Option Addr} {l : Nat} {xs : List Int} (h : Ints w a l xs) (n : Nat) : Ints (w.drewN n) a l xs := ⟨h.len, h.max, h.cells⟩

/-- where its cells lie, there are blocks -/
theorem Ints.lt {w : World} {a : Option Addr} {l : Nat} {xs : List Int} (h : Ints w a l xs) : ∀ x, a = some x → 0 < l → x.block < w.heap.size := by
  intro x hx hl
  rcases h.cells with h0 | ⟨b, off, rfl, hc⟩
  · omega
  · obtain rfl : (⟨b, off, none⟩ : Addr) = x := by simpa using hx
    exact block_lt (p := ⟨b, off + 0, none⟩) (hc 0 hl)

theorem IsRow.ints {w : World} {a : Option Addr} {l c : Nat} {zs : List Int} (h : IsRow .i64 w a l c zs) (hl : l ≤ 4611686018427387904) : Ints w a l (zs.take l) := by
  rcases h with ⟨rfl, rfl, rfl, rfl⟩ | ⟨x, rfl, h2, h3, h4, h5, h6⟩
  · exact ⟨rfl, hl, .inl rfl⟩
  · refine ⟨by simp; omega, hl, ?_⟩
    by_cases hz : l = 0
    · exact .inl hz
    · obtain ⟨b, off, rfl, hc⟩ := ints_at h5 (by omega)
      refine .inr ⟨b, off, rfl, fun i hi => ?_⟩
      rw [hc i (by omega)]
      simp [List.getD, hi]

/-! ### plain lists -/

theorem sum_snoc (xs : List Int) (k : Nat) (h : k < xs.length) : (xs.take (k + 1)).sum = (xs.take k).sum + xs.getD k 0 := by
  rw [List.take_add_one, List.sum_append]
  simp [List.getD, List.getElem?_eq_getElem h]

theorem sum_bd (M : Int) (hM : 0 ≤ M) : ∀ (xs : List Int), (∀ x ∈ xs, -M ≤ x ∧ x ≤ M) → -(xs.length * M) ≤ xs.sum ∧ xs.sum ≤ xs.length * M := by
  intro xs
  induction xs with
  | nil => intro _; simp
  | cons x r ih =>
    intro h
    obtain ⟨h1, h2⟩ := ih fun y hy => h y (List.mem_cons_of_mem _ hy)
    obtain ⟨h3, h4⟩ := h x List.mem_cons_self
    rw [List.sum_cons, List.length_cons]
    have e : ((r.length + 1 : Nat) : Int) * M = r.length * M + M := by rw [Int.natCast_add, Int.add_mul]; simp
    omega

theorem sum_take_bd (M : Int) (hM : 0 ≤ M) (xs : List Int) (k n : Nat) (hn : xs.length ≤ n) (h : ∀ x ∈ xs.take k, -M ≤ x ∧ x ≤ M) : -(n * M) ≤ (xs.take k).sum ∧ (xs.take k).sum ≤ n * M := by
  obtain ⟨h1, h2⟩ := sum_bd M hM (xs.take k) h
  have hl : (xs.take k).length ≤ n := Nat.le_trans (List.length_take_le' _ _) hn
  have : ((xs.take k).length : Int) * M ≤ n * M := Int.mul_le_mul_of_nonneg_right (by omega) hM
  omega

theorem all_snoc (p : Int → Bool) (xs : List Int) (k : Nat) (h : k < xs.length) : (xs.take (k + 1)).all p = ((xs.take k).all p && p (xs.getD k 0)) := by
  rw [List.take_add_one, List.all_append]
  simp [List.getD, List.getElem?_eq_getElem h]

theorem all_take (p : Int → Bool) (xs : List Int) (k : Nat) (h : p (xs.getD k 0) = false) (hk : k < xs.length) : xs.all p = false := by
  rw [List.all_eq_false]
  refine ⟨xs[k], List.getElem_mem hk, ?_⟩
  simpa [List.getD, List.getElem?_eq_getElem hk] using h

/-! ### the walks -/

theorem inAll_any (xs : List Int) (a : Option Addr) (l c : Nat) (most lo hi : Int) (w : World) (h : Ints w a l xs) :
    Calls Try.prog 107 #[.slice a l c, .int .i64 most, .int .i64 lo, .int .i64 hi] w fun e w' => e = .returned (.bool (xs.all (fun x => inB x lo hi) && decide ((l : Int) ≤ most))) ∧ w = w' := by
  have hm := h.max
  have hl := Lib.hid h.len
  have H := Lib.hid h
  clear h
  go_enter Try.func107, Try.ntmps107
  go_wp2_with fail
  go_loop [9] (fun i => ∃ k : Nat, k ≤ l ∧ i = .int .i64 k ∧ Hid ((xs.take k).all (fun x => inB x lo hi) = true)) (fun i => l - (intOf i).toNat)
  case atStart => exact ⟨0, Nat.zero_le _, rfl, Lib.hid (by simp)⟩
  case round =>
    obtain ⟨k, hk, rfl, HA⟩ := hrel
    by_cases hlt : k < l
    · rcases H.out.cells with h0 | ⟨b, off, rfl, hc⟩
      · omega
      have hx := hc k hlt
      obtain ⟨v, hv⟩ : ∃ v, xs.getD k 0 = v := ⟨_, rfl⟩
      rw [hv] at hx
      have HV := Lib.hid hv
      have HC := Lib.hid hc
      clear hv hc
      by_cases hin : inB v lo hi = true
      · go_wp2_with (go_at_call 82; refine (in_any _ _ _ _).mono ?_; rintro e w' ⟨rfl, rfl⟩)
        go_round
        case rel => exact ⟨k + 1, by omega, by go_num, Lib.hid (by rw [all_snoc _ _ _ (by rw [hl.out]; exact hlt), HA.out, HV.out, hin]; rfl)⟩
        case measure => simp [intOf]; omega
      · go_wp2_with (go_at_call 82; refine (in_any _ _ _ _).mono ?_; rintro e w' ⟨rfl, rfl⟩)
        go_ret
        exact ⟨ret_bool (by rw [all_take _ xs k (by rw [HV.out]; simpa using hin) (by rw [hl.out]; exact hlt)]; rfl), rfl⟩
    · go_wp2_with fail
      go_ret
      obtain rfl : k = l := by omega
      have e : xs.take k = xs := List.take_of_length_le (by rw [hl.out]; exact Nat.le_refl _)
      have HA' := HA.out
      rw [e] at HA'
      exact ⟨ret_bool (by rw [HA']; rfl), rfl⟩

def ddB (a b : Int) : Bool := monB a && inB b 1 1000000000

def ddV (a b : Int) : Int := if ddB a b then a / b else 0

def ddE (a b : Int) : Int := if ddB a b then 0 else 2

def duV (a b : Int) : Int := if ddB a b then -(-a / b) else 0

def pmB (a r : Int) : Bool := monB a && inB r 0 1000

def pmV (a r : Int) : Int := if pmB a r then a * r / 1000 else 0

def pmE (a r : Int) : Int := if pmB a r then 0 else 2

theorem ddB_iff (a b : Int) : ddB a b = true ↔ (-1000000000000 ≤ a ∧ a ≤ 1000000000000) ∧ (1 ≤ b ∧ b ≤ 1000000000) := by
  unfold ddB; rw [Bool.and_eq_true, monB_iff, inB_iff]

theorem pmB_iff (a r : Int) : pmB a r = true ↔ (-1000000000000 ≤ a ∧ a ≤ 1000000000000) ∧ (0 ≤ r ∧ r ≤ 1000) := by
  unfold pmB; rw [Bool.and_eq_true, monB_iff, inB_iff]

def gcdI (a b : Int) : Int := ((Nat.gcd a.toNat b.toNat : Nat) : Int)

theorem gcdI_zero (a : Int) (h : 0 ≤ a) : gcdI a 0 = a := by unfold gcdI; simp; omega

theorem gcdI_step (a b : Int) (ha : 0 ≤ a) (hb : 0 < b) : gcdI b (a % b) = gcdI a b := by
  unfold gcdI
  obtain ⟨x, rfl⟩ := Int.eq_ofNat_of_zero_le ha
  obtain ⟨y, rfl⟩ := Int.eq_ofNat_of_zero_le (show 0 ≤ b by omega)
  have e : ((x : Int) % (y : Int)).toNat = x % y := by
    omega
  rw [e]
  simp only [Int.toNat_natCast]
  rw [Nat.gcd_comm y, ← Nat.gcd_rec, Nat.gcd_comm]

def cfB (a b : Int) : Bool := inB a 0 1000000000000 && inB b 0 1000000000000

def cfV (a b : Int) : Int := if cfB a b then gcdI a b else 0

def cfE (a b : Int) : Int := if cfB a b then 0 else 2

end Go.Proofs.Ytmnddplkmljeaaa

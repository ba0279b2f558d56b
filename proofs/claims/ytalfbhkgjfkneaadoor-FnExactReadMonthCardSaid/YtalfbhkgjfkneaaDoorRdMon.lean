/- ReadMonth of the program and of its model: both find a month from its text alone. -/
import Derived.Test.YtalfbhkgjfkneaaDoorReadI
import Derived.Test.YtalfbhkgjfkneaaDoorDigs
import Derived.Test.YtalfbhkgjfkneaaDoorMonT
namespace Go.Proofs.YtalfbhkgjfkneaaDoor
open Go.ChangeShapes Go.WideShapes Go.ChangeAt Go.RowKit
set_option linter.unusedVariables false

theorem dgt_nat (x : Nat) : dgt (x : Int) = dch x := by
  unfold dgt dch
  congr 1

theorem mtT_dch (u : Nat) (h : u ≤ 35999) : mtT (u : Int) = [dch (u / 12 / 1000), dch (u / 12 / 100 % 10), dch (u / 12 / 10 % 10), dch (u / 12 % 10), 45, dch ((u % 12 + 1) / 10), dch ((u % 12 + 1) % 10)] := by
  have hm : mthB (u : Int) = true := (mthB_iff _).2 ⟨by omega, by omega⟩
  unfold mtT
  rw [if_pos hm, mtI_dgt _ (by omega) (by omega), ← dgt_nat, ← dgt_nat, ← dgt_nat, ← dgt_nat, ← dgt_nat, ← dgt_nat]
  rfl

theorem index_at (x : UInt8) (a r : List UInt8) (h : ∀ c ∈ a, c ≠ x) : Lib.index (a ++ x :: r) [x] = a.length := by
  induction a with
  | nil => simp [Lib.index]
  | cons c t ih =>
    have hc := h c List.mem_cons_self
    have hi := ih fun y hy => h y (List.mem_cons_of_mem _ hy)
    rw [List.cons_append, Lib.index]
    have hp : ([x] : List UInt8).isPrefixOf (c :: (t ++ x :: r)) = false := by simp [List.isPrefixOf]; exact fun e => hc e.symm
    rw [if_neg (by simp [hp]), hi, if_neg (by simp)]
    simp

theorem cut_at (x : UInt8) (a r : List UInt8) (h : ∀ c ∈ a, c ≠ x) : Lib.cut (a ++ x :: r) [x] = (a, r, true) := by
  unfold Lib.cut
  rw [index_at x a r h, if_pos (by omega)]
  simp

theorem dch_ne (d : Nat) (h : d < 10) : dch d ≠ 45 := by
  intro e
  have := congrArg UInt8.toNat e
  rw [dch_nat d h] at this
  simp at this
  omega

theorem cut_mt (u : Nat) (h : u ≤ 35999) : Lib.cut (mtT (u : Int)) [45] = ([dch (u / 12 / 1000), dch (u / 12 / 100 % 10), dch (u / 12 / 10 % 10), dch (u / 12 % 10)], [dch ((u % 12 + 1) / 10), dch ((u % 12 + 1) % 10)], true) := by
  rw [mtT_dch u h]
  exact cut_at 45 [dch (u / 12 / 1000), dch (u / 12 / 100 % 10), dch (u / 12 / 10 % 10), dch (u / 12 % 10)] _ (by
    intro c hc
    simp only [List.mem_cons, List.not_mem_nil, or_false] at hc
    rcases hc with rfl | rfl | rfl | rfl
    all_goals exact dch_ne _ (by omega))

/-- ParseInt of digits -/
theorem parse_int (c : UInt8) (t : List UInt8) (u : Nat) (hc : 48 ≤ c.toNat ∧ c.toNat ≤ 57) (hp : Lib.parseUintB 64 (c :: t) = .ok u) (hu : u ≤ 1000000000000) : Lib.parseIntB 64 (c :: t) = .ok u := by
  rw [Lib.parseIntB]
  simp only [if_neg (show ¬ (c.toNat = 43 ∨ c.toNat = 45) by omega), hp]
  have h63 : (2 : Nat) ^ (64 - 1) = 9223372036854775808 := by decide
  rw [if_neg (by rw [h63]; omega), if_neg (by omega), if_neg (by omega)]

theorem big64 : (9223372036854775807 : Nat) ≤ 2 ^ 64 - 1 := by decide

theorem parse_d4 (a b c d : Nat) (ha : a < 10) (hb : b < 10) (hc : c < 10) (hd : d < 10) : Lib.parseIntB 64 [dch a, dch b, dch c, dch d] = .ok ((a * 1000 + b * 100 + c * 10 + d : Nat) : Int) := by
  have hM := big64
  refine parse_int _ _ _ (by rw [dch_nat a ha]; omega) ?_ (by omega)
  unfold Lib.parseUintB
  rw [if_neg (by simp), parse_one _ _ _ _ ha (by omega) (by omega), parse_one _ _ _ _ hb (by omega) (by omega), parse_one _ _ _ _ hc (by omega) (by omega), parse_one _ _ _ _ hd (by omega) (by omega), Lib.parseUintM]
  congr 1
  omega

theorem parse_d2 (a b : Nat) (ha : a < 10) (hb : b < 10) : Lib.parseIntB 64 [dch a, dch b] = .ok ((a * 10 + b : Nat) : Int) := by
  have hM := big64
  refine parse_int _ _ _ (by rw [dch_nat a ha]; omega) ?_ (by omega)
  unfold Lib.parseUintB
  rw [if_neg (by simp), parse_one _ _ _ _ ha (by omega) (by omega), parse_one _ _ _ _ hb (by omega) (by omega), Lib.parseUintM]
  congr 1
  omega

theorem dig4 (y : Nat) : y / 1000 * 1000 + y / 100 % 10 * 100 + y / 10 % 10 * 10 + y % 10 = y := by
  rw [show y / 1000 = y / 10 / 10 / 10 by omega, show y / 100 = y / 10 / 10 by omega]
  omega

theorem dig2 (m : Nat) : m / 10 * 10 + m % 10 = m := by omega

/-- what the program's ReadMonth finds -/
def rdm (l : List UInt8) : Option Int :=
  match Lib.parseIntB 64 (Lib.cut l [45]).1, Lib.parseIntB 64 (Lib.cut l [45]).2.1 with
  | .ok y, .ok m => if moB y m && (mtT (12 * y + m - 1) == l) then some (12 * y + m - 1) else none
  | _, _ => none

theorem mo_mth {y m : Int} (h : moB y m = true) : mthB (12 * y + m - 1) = true := by
  unfold moB at h
  rw [Bool.and_eq_true, inB_iff, inB_iff] at h
  exact (mthB_iff _).2 ⟨by omega, by omega⟩

theorem rdm_iff (l : List UInt8) (n : Int) : rdm l = some n ↔ mthB n = true ∧ mtT n = l := by
  constructor
  · intro h
    unfold rdm at h
    split at h
    · split at h
      · next hh =>
        obtain rfl := Option.some.inj h
        rw [Bool.and_eq_true] at hh
        exact ⟨mo_mth hh.1, by simpa using hh.2⟩
      · cases h
    · cases h
  · rintro ⟨h, rfl⟩
    obtain ⟨h1, h2⟩ := (mthB_iff n).1 h
    obtain ⟨u, rfl⟩ := Int.eq_ofNat_of_zero_le h1
    unfold rdm
    rw [cut_mt u (by omega)]
    simp only
    rw [parse_d4 _ _ _ _ (by omega) (by omega) (by omega) (by omega), parse_d2 _ _ (by omega) (by omega)]
    simp only
    rw [dig4, dig2]
    have e : 12 * ((u / 12 : Nat) : Int) + ((u % 12 + 1 : Nat) : Int) - 1 = (u : Int) := by omega
    have hB : moB ((u / 12 : Nat) : Int) ((u % 12 + 1 : Nat) : Int) = true := by
      unfold moB
      rw [Bool.and_eq_true, inB_iff, inB_iff]
      omega
    rw [e, hB]
    simp

/-! ### the model's -/

def sdmN (l : List UInt8) : Int := 12 * ((val (l.take 4 ++ l.drop 5) : Int) / 100) + (val (l.take 4 ++ l.drop 5) : Int) % 100 - 1

def sdmB (l : List UInt8) : Bool := decide (l.length = 7) && (l.take 4 ++ l.drop 5).all isDig && (mtT (sdmN l) == l)

theorem isDig_d (d : Nat) (h : d < 10) : isDig (dch d) = true := by
  unfold isDig
  rw [dch_nat d h]
  simp; omega

theorem sdm_iff (l : List UInt8) (n : Int) : (sdmB l = true ∧ sdmN l = n) ↔ mthB n = true ∧ mtT n = l := by
  constructor
  · rintro ⟨h, rfl⟩
    unfold sdmB at h
    rw [Bool.and_eq_true, Bool.and_eq_true, decide_eq_true_iff] at h
    have e : mtT (sdmN l) = l := by simpa using h.2
    refine ⟨?_, e⟩
    by_cases hm : mthB (sdmN l) = true
    · exact hm
    · exfalso
      unfold mtT at e
      rw [if_neg hm] at e
      have := h.1.1
      rw [← e] at this
      simp at this
  · rintro ⟨h, rfl⟩
    obtain ⟨h1, h2⟩ := (mthB_iff n).1 h
    obtain ⟨u, rfl⟩ := Int.eq_ofNat_of_zero_le h1
    have hd := mtT_dch u (by omega)
    have e : (mtT (u : Int)).take 4 ++ (mtT (u : Int)).drop 5 = [dch (u / 12 / 1000), dch (u / 12 / 100 % 10), dch (u / 12 / 10 % 10), dch (u / 12 % 10), dch ((u % 12 + 1) / 10), dch ((u % 12 + 1) % 10)] := by rw [hd]; rfl
    have hv : val ((mtT (u : Int)).take 4 ++ (mtT (u : Int)).drop 5) = 100 * (u / 12) + (u % 12 + 1) := by
      rw [e]
      simp only [val, List.foldl_cons, List.foldl_nil]
      rw [dch_nat _ (by omega), dch_nat _ (by omega), dch_nat _ (by omega), dch_nat _ (by omega), dch_nat _ (by omega), dch_nat _ (by omega)]
      have h4 := dig4 (u / 12)
      have h2 := dig2 (u % 12 + 1)
      omega
    have hN : sdmN (mtT (u : Int)) = u := by
      unfold sdmN
      rw [hv]
      omega
    refine ⟨?_, hN⟩
    unfold sdmB
    rw [hN, e]
    simp only [List.all_cons, List.all_nil]
    rw [isDig_d _ (by omega), isDig_d _ (by omega), isDig_d _ (by omega), isDig_d _ (by omega), isDig_d _ (by omega), isDig_d _ (by omega), hd]
    simp

theorem sdm_rdm (l : List UInt8) : (if sdmB l then some (sdmN l) else none) = rdm l := by
  cases hr : rdm l with
  | some n =>
    obtain ⟨h1, h2⟩ := (sdm_iff l n).2 ((rdm_iff l n).1 hr)
    rw [if_pos h1, h2]
  | none =>
    by_cases h : sdmB l = true
    · have := (rdm_iff l _).2 ((sdm_iff l _).1 ⟨h, rfl⟩)
      rw [hr] at this; cases this
    · rw [if_neg h]

end Go.Proofs.YtalfbhkgjfkneaaDoor

/- Plain facts on decimals: reading back what was written (no program in it). -/
import Derived.Test.YtnppkdnmkhoeeaaDoorMoney
import Derived.Lib.IndexMore
import Derived.Lib.ParseIntB
namespace Go.Proofs.YtnppkdnmkhoeeaaDoor
set_option linter.unusedVariables false

/-- the digit of d -/
def dch (d : Nat) : UInt8 := UInt8.ofNat (48 + d)

theorem dch_nat (d : Nat) (h : d < 10) : (dch d).toNat = 48 + d := by unfold dch; simp; omega

theorem dig_small (u : Nat) (h : u < 10) : Lib.decDigits u = [dch u] := dec_small u h

theorem dig_big (u : Nat) (h : ¬ u < 10) : Lib.decDigits u = Lib.decDigits (u / 10) ++ [dch (u % 10)] := dec_big u h

theorem posT_dch (u : Nat) : posT u = Lib.decDigits (u / 100) ++ 46 :: [dch (u / 10 % 10), dch (u % 10)] := by
  rw [posT_eq, dig_small (u / 10 % 10) (by omega), dig_small (u % 10) (by omega)]; simp

/-- every byte of a numeral is a digit -/
theorem dig_all (u : Nat) : ∀ c ∈ Lib.decDigits u, 48 ≤ c.toNat ∧ c.toNat ≤ 57 := by
  induction u using Nat.strongRecOn with
  | _ u ih =>
    intro c hc
    by_cases h : u < 10
    · rw [dig_small u h] at hc
      simp at hc
      rw [hc, dch_nat u h]; omega
    · rw [dig_big u h] at hc
      simp at hc
      rcases hc with hc | hc
      · exact ih (u / 10) (by omega) c hc
      · rw [hc, dch_nat _ (by omega)]; omega

theorem dig_ne_nil (u : Nat) : Lib.decDigits u ≠ [] := by
  by_cases h : u < 10
  · rw [dig_small u h]; simp
  · rw [dig_big u h]; simp

/-- the first digit of a number greater than 0 is not 0 -/
theorem dig_head (u : Nat) (hu : 0 < u) : ∃ c t, Lib.decDigits u = c :: t ∧ c ≠ 48 := by
  induction u using Nat.strongRecOn with
  | _ u ih =>
    by_cases h : u < 10
    · refine ⟨_, _, dig_small u h, ?_⟩
      intro e
      have := congrArg UInt8.toNat e
      rw [dch_nat u h] at this
      simp at this
      omega
    · obtain ⟨c, t, e, hc⟩ := ih (u / 10) (by omega) (by omega)
      exact ⟨c, t ++ [dch (u % 10)], by rw [dig_big u h, e]; rfl, hc⟩

theorem parse_one (M acc d : Nat) (r : List UInt8) (hd : d < 10) (h1 : acc < 1844674407370955162) (h2 : acc * 10 + d ≤ M) :
    Lib.parseUintM M acc (dch d :: r) = Lib.parseUintM M (acc * 10 + d) r := by
  have e := dch_nat d hd
  rw [Lib.parseUintM, if_pos (by omega), if_neg (by omega), e, if_neg (by omega)]
  congr 1
  omega

theorem parse_dig (M : Nat) (hM : 9223372036854775807 ≤ M) : ∀ (u : Nat) (r : List UInt8), u ≤ 1000000000000000 → Lib.parseUintM M 0 (Lib.decDigits u ++ r) = Lib.parseUintM M u r := by
  intro u
  induction u using Nat.strongRecOn with
  | _ u ih =>
    intro r hu
    by_cases h : u < 10
    · rw [dig_small u h, List.singleton_append, parse_one M 0 u r h (by omega) (by omega)]
      congr 1
      omega
    · rw [dig_big u h, List.append_assoc, ih (u / 10) (by omega) _ (by omega), List.singleton_append, parse_one M (u / 10) (u % 10) r (by omega) (by omega) (by omega)]
      congr 1
      omega

theorem index_dot (a r : List UInt8) (h : ∀ c ∈ a, c ≠ 46) : Lib.index (a ++ 46 :: r) [46] = a.length := by
  induction a with
  | nil => simp [Lib.index]
  | cons c t ih =>
    have hc := h c List.mem_cons_self
    have hi := ih fun x hx => h x (List.mem_cons_of_mem _ hx)
    rw [List.cons_append, Lib.index]
    have hp : ([46] : List UInt8).isPrefixOf (c :: (t ++ 46 :: r)) = false := by simp [List.isPrefixOf]; exact fun e => hc e.symm
    rw [if_neg (by simp [hp]), hi, if_neg (by simp)]
    simp

theorem cut_dot (a r : List UInt8) (h : ∀ c ∈ a, c ≠ 46) : Lib.cut (a ++ 46 :: r) [46] = (a, r, true) := by
  unfold Lib.cut
  rw [index_dot a r h, if_pos (by omega)]
  simp

theorem dig_dot (u : Nat) : ∀ c ∈ Lib.decDigits u, c ≠ 46 := by
  intro c hc e
  have := dig_all u c hc
  rw [e] at this
  simp at this

/-- what the program's ReadMoney hands to ParseInt -/
def joined (l : List UInt8) : List UInt8 := (Lib.cut l [46]).1 ++ (Lib.cut l [46]).2.1

theorem parse_pos (u : Nat) (hu : u ≤ 1000000000000) : Lib.parseUintB 64 (Lib.decDigits (u / 100) ++ [dch (u / 10 % 10), dch (u % 10)]) = .ok u := by
  unfold Lib.parseUintB
  rw [if_neg (by simp), parse_dig _ (by decide) (u / 100) _ (by omega), parse_one _ _ _ _ (by omega) (by omega) (by have : (9223372036854775807 : Nat) ≤ 2 ^ 64 - 1 := (by decide); omega), parse_one _ _ _ _ (by omega) (by omega) (by have : (9223372036854775807 : Nat) ≤ 2 ^ 64 - 1 := (by decide); omega)]
  rw [Lib.parseUintM]
  congr 1
  omega

/-- ParseInt finds money from its text without the dot -/
theorem parse_txt (n : Int) (h1 : -1000000000000 ≤ n) (h2 : n ≤ 1000000000000) : Lib.parseIntB 64 (joined (txt n)) = .ok n := by
  by_cases hn : n < 0
  · obtain ⟨u, hu⟩ := Int.eq_ofNat_of_zero_le (show 0 ≤ -n by omega)
    obtain rfl : n = -(u : Int) := by omega
    have e : joined (txt (-(u : Int))) = 45 :: (Lib.decDigits (u / 100) ++ [dch (u / 10 % 10), dch (u % 10)]) := by
      unfold joined
      rw [txt_neg u (by omega), posT_dch, ← List.cons_append, cut_dot _ _ (by intro c hc; simp at hc; rcases hc with rfl | hc; decide; exact dig_dot _ c hc)]
      rfl
    have h63 : (2 : Nat) ^ (64 - 1) = 9223372036854775808 := by decide
    have h45 : (45 : UInt8).toNat = 45 := by decide
    rw [e, Lib.parseIntB]
    rw [if_pos (show (45 : UInt8).toNat = 43 ∨ (45 : UInt8).toNat = 45 from .inr h45), parse_pos u (by omega)]
    simp only
    rw [if_neg (fun hh => hh.1 h45), if_neg (by rw [h63]; omega), if_pos h45]
  · obtain ⟨u, rfl⟩ := Int.eq_ofNat_of_zero_le (show 0 ≤ n by omega)
    have e : joined (txt (u : Int)) = Lib.decDigits (u / 100) ++ [dch (u / 10 % 10), dch (u % 10)] := by
      unfold joined
      rw [txt_nat, posT_dch, cut_dot _ _ (dig_dot _)]
    have hp := parse_pos u (by omega)
    rw [e]
    obtain ⟨c, t, hct⟩ : ∃ c t, Lib.decDigits (u / 100) ++ [dch (u / 10 % 10), dch (u % 10)] = c :: t := by
      cases hh : Lib.decDigits (u / 100) with
      | nil => exact absurd hh (dig_ne_nil _)
      | cons c t => exact ⟨c, t ++ [dch (u / 10 % 10), dch (u % 10)], rfl⟩
    have hc : 48 ≤ c.toNat ∧ c.toNat ≤ 57 := by
      have hm : c ∈ Lib.decDigits (u / 100) ++ [dch (u / 10 % 10), dch (u % 10)] := by rw [hct]; exact List.mem_cons_self
      simp only [List.mem_append, List.mem_cons, List.not_mem_nil, or_false] at hm
      rcases hm with hm | rfl | rfl
      · exact dig_all _ c hm
      · rw [dch_nat _ (by omega)]; omega
      · rw [dch_nat _ (by omega)]; omega
    rw [hct] at hp ⊢
    rw [Lib.parseIntB]
    simp only [if_neg (show ¬ (c.toNat = 43 ∨ c.toNat = 45) by omega), hp]
    have h63 : (2 : Nat) ^ (64 - 1) = 9223372036854775808 := by decide
    rw [if_neg (by rw [h63]; omega), if_neg (by omega), if_neg (by omega)]

/-- what the program's ReadMoney finds -/
def rd (l : List UInt8) : Option Int :=
  match Lib.parseIntB 64 (joined l) with
  | .ok v => if monB v && (txt v == l) then some v else none
  | _ => none

theorem rd_iff (l : List UInt8) (n : Int) : rd l = some n ↔ monB n = true ∧ txt n = l := by
  constructor
  · intro h
    unfold rd at h
    split at h
    · split at h
      · next hh =>
        obtain rfl := Option.some.inj h
        rw [Bool.and_eq_true] at hh
        exact ⟨hh.1, by simpa using hh.2⟩
      · cases h
    · cases h
  · rintro ⟨h, rfl⟩
    have hb := (monB_iff n).1 h
    unfold rd
    rw [parse_txt n hb.1 hb.2]
    simp [h]

theorem toList_eq (s : ByteArray) : s.toList = s.data.toList := by
  exact ByteArray.toList_eq s

end Go.Proofs.YtnppkdnmkhoeeaaDoor

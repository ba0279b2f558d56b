/- The text of money: what the program's and the model's functions return, one Lean function for both. -/
import Derived.Test.YtjcedfafeakikaaDoorBase
import Derived.Test.YtjcedfafeakikaaDoorShelf
import Derived.Lib.ItoaLen
import Derived.ShutString
import Derived.Lib.SmallJoins
import Derived.Lib.AppendIntMem
namespace Go.Proofs.YtjcedfafeakikaaDoor
open Go.ChangeShapes Go.WideShapes Go.ChangeAt Go.RowKit
set_option linter.unusedVariables false

/-- the digits of an amount of cents of at least 0: units, a dot, two digits -/
def posT (u : Nat) : List UInt8 := Lib.decDigits (u / 100) ++ 46 :: ((if u % 100 < 10 then [48] else []) ++ Lib.decDigits (u % 100))

/-- the text of money -/
def txt (n : Int) : List UInt8 := if n < 0 then 45 :: posT n.natAbs else posT n.toNat

/-- the library's table of powers of ten is as the row lists it -/
def Tab (w : World) : Prop := Lib.TabIs Tryd.prog w "internal/strconv.uint64pow10" .u64 Lib.pow10Tab

theorem gTab : Tryd.prog.globalNamed "internal/strconv.uint64pow10" = some 3 := by kernel_rfl

theorem Tab.step {w w' : World} {B : Nat} (h : Tab w) (hb : Below B w w') (hB : w.heap.size ≤ B) : Tab w' := Joins.tab_stays gTab h hb hB

/-- strconv.FormatInt(n, 10) -/
theorem fmt_any (n : Int) (w : World) (h0 : -9223372036854775808 ≤ n) (h1 : n ≤ 9223372036854775807) (ht : Tab w) :
    Calls Tryd.prog 30 #[.int .i64 n, .int .i64 10] w fun e w' => e = .returned (.string ⟨(Lib.itoa n).toArray⟩) ∧ Below w.heap.size w w' ∧ Tab w' := by
  refine (Tryd.strconv_FormatInt_10 n h0 h1 w ht).mono ?_
  rintro e w1 ⟨rfl, k, os, rfl⟩
  have hb := Lib.below_grow w.heap.size w (Nat.le_refl _) k os
  exact ⟨rfl, hb, ht.step hb (Nat.le_refl _)⟩

theorem ret_str {a b : ByteArray} (h : a.data.toList = b.data.toList) : Ending.returned (.string a) = .returned (.string b) := by
  obtain ⟨⟨a⟩⟩ := a
  obtain ⟨⟨b⟩⟩ := b
  simp at h
  rw [h]

theorem itoa_nat (u : Nat) : Lib.itoa (u : Int) = Lib.decDigits u := Lib.itoa_nonneg u

theorem itoa_div (u : Nat) : Lib.itoa ((u : Int) / 100) = Lib.decDigits (u / 100) := itoa_nat (u / 100)

theorem itoa_mod (u : Nat) : Lib.itoa ((u : Int) % 100) = Lib.decDigits (u % 100) := itoa_nat (u % 100)

theorem txt_nat (u : Nat) : txt (u : Int) = posT u := by unfold txt; rw [if_neg (by omega)]; simp

theorem txt_neg (u : Nat) (h : 0 < u) : txt (-(u : Int)) = 45 :: posT u := by unfold txt; rw [if_pos (by omega)]; simp

theorem posT_small (u : Nat) (h : u % 100 < 10) : posT u = Lib.decDigits (u / 100) ++ [46] ++ [48] ++ Lib.decDigits (u % 100) := by unfold posT; rw [if_pos h]; simp

theorem posT_big (u : Nat) (h : ¬ u % 100 < 10) : posT u = Lib.decDigits (u / 100) ++ [46] ++ Lib.decDigits (u % 100) := by unfold posT; rw [if_neg h]; simp

theorem text_any (n : Int) (w : World) (ht : Tab w) (h1 : -1000000000000 ≤ n) (h2 : n ≤ 1000000000000) :
    Calls Tryd.prog 19 #[.int .i64 n] w fun e w' => e = .returned (.string ⟨(txt n).toArray⟩) ∧ Below w.heap.size w w' := by
  have HT := Lib.hid ht
  clear ht
  by_cases hn : n < 0
  · obtain ⟨u, hu⟩ := Int.eq_ofNat_of_zero_le (show 0 ≤ -n by omega)
    obtain rfl : n = -(u : Int) := by omega
    clear hu
    have l1 := Lib.itoa_length_le ((u : Int) / 100) (by omega) (by omega)
    have l2 := Lib.itoa_length_le ((u : Int) % 100) (by omega) (by omega)
    by_cases hc : (u : Int) % 100 < 10
    all_goals
      go_enter Tryd.func19, Tryd.ntmps19
      go_wp2_with fail
      refine (fmt_any _ _ (by omega) (by omega) HT.out).mono ?_
      rintro e w1 ⟨rfl, hb1, ht1⟩
      have HB1 := Lib.hid hb1; have HT1 := Lib.hid ht1
      clear hb1 ht1
      go_wp2_with fail
      refine (fmt_any _ _ (by omega) (by omega) HT1.out).mono ?_
      rintro e w2 ⟨rfl, hb2, ht2⟩
      have HB2 := Lib.hid (HB1.out.trans (hb2.mono HB1.out.size))
      clear hb2 ht2
      go_wp2_with fail
      go_ret
    · exact ⟨ret_str (by rw [txt_neg u (by omega), posT_small u (by omega)]; simp [itoa_div, itoa_mod]), HB2.out⟩
    · exact ⟨ret_str (by rw [txt_neg u (by omega), posT_big u (by omega)]; simp [itoa_div, itoa_mod]), HB2.out⟩
  · obtain ⟨u, rfl⟩ := Int.eq_ofNat_of_zero_le (show 0 ≤ n by omega)
    have l1 := Lib.itoa_length_le ((u : Int) / 100) (by omega) (by omega)
    have l2 := Lib.itoa_length_le ((u : Int) % 100) (by omega) (by omega)
    by_cases hc : (u : Int) % 100 < 10
    all_goals
      go_enter Tryd.func19, Tryd.ntmps19
      go_wp2_with fail
      refine (fmt_any _ _ (by omega) (by omega) HT.out).mono ?_
      rintro e w1 ⟨rfl, hb1, ht1⟩
      have HB1 := Lib.hid hb1; have HT1 := Lib.hid ht1
      clear hb1 ht1
      go_wp2_with fail
      refine (fmt_any _ _ (by omega) (by omega) HT1.out).mono ?_
      rintro e w2 ⟨rfl, hb2, ht2⟩
      have HB2 := Lib.hid (HB1.out.trans (hb2.mono HB1.out.size))
      clear hb2 ht2
      go_wp2_with fail
      go_ret
    · exact ⟨ret_str (by rw [txt_nat, posT_small u (by omega)]; simp [itoa_div, itoa_mod]), HB2.out⟩
    · exact ⟨ret_str (by rw [txt_nat, posT_big u (by omega)]; simp [itoa_div, itoa_mod]), HB2.out⟩

end Go.Proofs.YtjcedfafeakikaaDoor

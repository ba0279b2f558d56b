/- MoneyText of the program and of its model: one Lean function for both; the exact law on it. -/
import Derived.Test.YtjcedfafeakikaaDoorDec
namespace Go.Proofs.YtjcedfafeakikaaDoor
open Go.ChangeShapes Go.WideShapes Go.ChangeAt Go.RowKit
set_option linter.unusedVariables false

theorem pad_eq (r : Nat) (h : r < 100) : (if r < 10 then [48] else []) ++ Lib.decDigits r = Lib.decDigits (r / 10) ++ Lib.decDigits (r % 10) := by
  by_cases h1 : r < 10
  · rw [if_pos h1, show r / 10 = 0 by omega, show r % 10 = r by omega, dec_small 0 (by omega)]
    rfl
  · rw [if_neg h1, dec_big r h1, dec_small (r % 10) (by omega)]
    rfl

theorem posT_eq (u : Nat) : posT u = Lib.decDigits (u / 100) ++ [46] ++ Lib.decDigits (u / 10 % 10) ++ Lib.decDigits (u % 10) := by
  have h := pad_eq (u % 100) (by omega)
  unfold posT
  rw [h, show u % 100 / 10 = u / 10 % 10 by omega, show u % 100 % 10 = u % 10 by omega]
  simp

theorem toNat_100 (u : Nat) : ((u : Int) / 100).toNat = u / 100 := by omega

theorem toNat_1010 (u : Nat) : ((u : Int) / 10 % 10).toNat = u / 10 % 10 := by omega

theorem toNat_10 (u : Nat) : ((u : Int) % 10).toNat = u % 10 := by omega

theorem stext_nn (u : Nat) (w : World) (h2 : (u : Int) ≤ 1000000000000) :
    Calls Tryd.prog 28 #[.int .i64 u] w fun e w' => e = .returned (.string ⟨(posT u).toArray⟩) ∧ Below w.heap.size w w' := by
  have l1 := dec_len ((u : Int) / 100).toNat (by omega)
  have l2 := dec_len ((u : Int) / 10 % 10).toNat (by omega)
  have l3 := dec_len ((u : Int) % 10).toNat (by omega)
  have k1 := dec_len (u / 100) (by omega)
  have k2 := dec_len (u / 10 % 10) (by omega)
  have k3 := dec_len (u % 10) (by omega)
  go_enter Tryd.func28, Tryd.ntmps28
  go_wp2_with fail
  refine (dec_any u ((u : Int) / 100) _ (by omega) (by omega) (by omega)).mono ?_
  rintro e w1 ⟨rfl, hb1⟩
  have HB1 := Lib.hid hb1
  clear hb1
  go_wp2_with fail
  refine (dec_any u ((u : Int) / 10 % 10) _ (by omega) (by omega) (by omega)).mono ?_
  rintro e w2 ⟨rfl, hb2⟩
  have HB2 := Lib.hid (HB1.out.trans (hb2.mono HB1.out.size))
  clear hb2
  go_wp2_with fail
  refine (dec_any u ((u : Int) % 10) _ (by omega) (by omega) (by omega)).mono ?_
  rintro e w3 ⟨rfl, hb3⟩
  have HB3 := Lib.hid (HB2.out.trans (hb3.mono HB2.out.size))
  clear hb3
  go_wp2_with fail
  go_ret
  exact ⟨ret_str (by rw [posT_eq]; simp), HB3.out⟩

theorem dec_max (u : Nat) (h : u ≤ 9223372036854775807) : (Lib.decDigits u).length ≤ 21 := dec_len u h

theorem posT_len (u : Nat) (h : u ≤ 1000000000000) : (posT u).length ≤ 64 := by
  rw [posT_eq]
  have l1 := dec_len (u / 100) (by omega)
  have l2 := dec_len (u / 10 % 10) (by omega)
  have l3 := dec_len (u % 10) (by omega)
  simp; omega

theorem stext_any (n : Int) (w : World) (h1 : -1000000000000 ≤ n) (h2 : n ≤ 1000000000000) :
    Calls Tryd.prog 28 #[.int .i64 n] w fun e w' => e = .returned (.string ⟨(txt n).toArray⟩) ∧ Below w.heap.size w w' := by
  by_cases hn : n < 0
  · obtain ⟨u, hu⟩ := Int.eq_ofNat_of_zero_le (show 0 ≤ -n by omega)
    have hl := posT_len u (by omega)
    have HU := Lib.hid (show n = -(u : Int) by omega)
    go_enter Tryd.func28, Tryd.ntmps28
    go_wp2_with fail
    clear hu
    refine (stext_nn u _ (by have := HU.out; omega)).mono ?_
    rintro e w1 ⟨rfl, hb⟩
    have HB := Lib.hid hb
    clear hb
    go_wp2_with fail
    go_ret
    exact ⟨ret_str (by rw [HU.out, txt_neg u (by have := HU.out; omega)]; simp), HB.out⟩
  · obtain ⟨u, rfl⟩ := Int.eq_ofNat_of_zero_le (show 0 ≤ n by omega)
    rw [txt_nat]
    exact stext_nn u w h2

/-- what MoneyText answers -/
def mtx (n : Int) : List UInt8 := if monB n then txt n else []

theorem mt_spec (n : Int) (w : World) : Calls Tryd.prog 15 #[.int .i64 n] w fun e w' => e = .returned (.string ⟨(mtx n).toArray⟩) ∧ Below w.heap.size w w' := by
  by_cases h : monB n = true
  · obtain ⟨h1, h2⟩ := (monB_iff n).1 h
    go_enter Tryd.func15, Tryd.ntmps15
    go_wp2_with (first | (go_at_call 25; refine (money_any _ _).mono ?_; rintro e w' ⟨rfl, rfl⟩) | (go_at_call 28; refine (stext_any _ _ h1 h2).mono ?_; rintro e w1 ⟨rfl, hb⟩; have HB := Lib.hid hb; clear hb))
    go_ret
    exact ⟨ret_str (by simp [mtx, h]), HB.out⟩
  · go_enter Tryd.func15, Tryd.ntmps15
    go_wp2_with (go_at_call 25; refine (money_any _ _).mono ?_; rintro e w' ⟨rfl, rfl⟩)
    go_ret
    exact ⟨ret_str (by simp [mtx, h]), Below.refl _ _⟩

theorem mt_impl (n : Int) (w : World) (ht : Tab w) : Calls Tryd.prog 8 #[.int .i64 n] w fun e w' => e = .returned (.string ⟨(mtx n).toArray⟩) ∧ Below w.heap.size w w' := by
  have HT := Lib.hid ht
  clear ht
  by_cases h : monB n = true
  · obtain ⟨h1, h2⟩ := (monB_iff n).1 h
    go_enter Tryd.func8, Tryd.ntmps8
    go_wp2_with (first | (go_at_call 18; refine (valid_any _ _).mono ?_; rintro e w' ⟨rfl, rfl⟩) | (go_at_call 19; refine (text_any _ _ HT.out h1 h2).mono ?_; rintro e w1 ⟨rfl, hb⟩; have HB := Lib.hid hb; clear hb))
    go_ret
    exact ⟨ret_str (by simp [mtx, h]), HB.out⟩
  · go_enter Tryd.func8, Tryd.ntmps8
    go_wp2_with (go_at_call 18; refine (valid_any _ _).mono ?_; rintro e w' ⟨rfl, rfl⟩)
    go_ret
    exact ⟨ret_str (by simp [mtx, h]), Below.refl _ _⟩

theorem fnExactMoneyText_walk (a0 : Int) (w : World) (ht : Tab w) :
    Calls Tryd.prog 4 #[.int .i64 a0] w fun e w' => e = .returned (.bool true) ∧ Below w.heap.size w w' := by
  have HT := Lib.hid ht
  clear ht
  go_enter Tryd.func4, Tryd.ntmps4
  go_wp2_with fail
  refine (mt_spec _ _).mono ?_
  rintro e w1 ⟨rfl, hb⟩
  have HB := Lib.hid hb
  have HT1 := Lib.hid (HT.out.step hb (Nat.le_refl _))
  clear hb
  go_wp2_with fail
  refine (mt_impl _ _ HT1.out).mono ?_
  rintro e w2 ⟨rfl, hb⟩
  have HB2 := Lib.hid (HB.out.trans (hb.mono HB.out.size))
  clear hb
  go_wp2_with fail
  go_ret
  exact ⟨rfl, HB2.out⟩

end Go.Proofs.YtjcedfafeakikaaDoor

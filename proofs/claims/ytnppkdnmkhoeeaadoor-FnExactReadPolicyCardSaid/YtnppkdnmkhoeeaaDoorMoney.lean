/- MoneyText of the program and of its model: one Lean function for both; the exact law on it. -/
import Derived.Test.YtnppkdnmkhoeeaaDoorTxt
namespace Go.Proofs.YtnppkdnmkhoeeaaDoor
open Go.ChangeShapes Go.WideShapes Go.ChangeAt Go.RowKit
set_option linter.unusedVariables false

theorem pad_eq (r : Nat) (h : r < 100) : (if r < 10 then [48] else []) ++ Lib.decDigits r = Lib.decDigits (r / 10) ++ Lib.decDigits (r % 10) := by
  by_cases h1 : r < 10
  · rw [if_pos h1, show r / 10 = 0 by omega, show r % 10 = r by omega, dec_small 0 (by omega)]
    rfl
  · rw [if_neg h1, dec_big r h1, dec_small (r % 10) (by omega)]
    rfl

theorem posT_eq (u : Nat) : posT u = Lib.decDigits (u / 100) ++ [46] ++ Lib.decDigits (u / 10 % 10) ++ Lib.decDigits (u % 10) := by
  have h := pad_eq (u % 100) (by omega)
  unfold posT
  rw [h, show u % 100 / 10 = u / 10 % 10 by omega, show u % 100 % 10 = u % 10 by omega]
  simp

theorem toNat_100 (u : Nat) : ((u : Int) / 100).toNat = u / 100 := by omega

theorem toNat_1010 (u : Nat) : ((u : Int) / 10 % 10).toNat = u / 10 % 10 := by omega

theorem toNat_10 (u : Nat) : ((u : Int) % 10).toNat = u % 10 := by omega

theorem dec_max (u : Nat) (h : u ≤ 9223372036854775807) : (Lib.decDigits u).length ≤ 21 := dec_len u h

theorem posT_len (u : Nat) (h : u ≤ 1000000000000) : (posT u).length ≤ 64 := by
  rw [posT_eq]
  have l1 := dec_len (u / 100) (by omega)
  have l2 := dec_len (u / 10 % 10) (by omega)
  have l3 := dec_len (u % 10) (by omega)
  simp; omega

/-- what MoneyText answers -/
def mtx (n : Int) : List UInt8 := if monB n then txt n else []

end Go.Proofs.YtnppkdnmkhoeeaaDoor

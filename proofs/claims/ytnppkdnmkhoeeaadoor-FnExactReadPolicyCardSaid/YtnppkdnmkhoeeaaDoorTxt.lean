/- The text of money: what the program's and the model's functions return, one Lean function for both. -/
import Derived.Test.YtnppkdnmkhoeeaaDoorDec
import Derived.Test.YtnppkdnmkhoeeaaDoorShelf
import Derived.Lib.ItoaLen
import Derived.ShutString
import Derived.Lib.SmallJoins
import Derived.Lib.AppendIntMem
namespace Go.Proofs.YtnppkdnmkhoeeaaDoor
open Go.ChangeShapes Go.WideShapes Go.ChangeAt Go.RowKit
set_option linter.unusedVariables false

/-- the digits of an amount of cents of at least 0: units, a dot, two digits -/
def posT (u : Nat) : List UInt8 := Lib.decDigits (u / 100) ++ 46 :: ((if u % 100 < 10 then [48] else []) ++ Lib.decDigits (u % 100))

/-- the text of money -/
def txt (n : Int) : List UInt8 := if n < 0 then 45 :: posT n.natAbs else posT n.toNat

/-- the library's table of powers of ten is as the row lists it -/
def Tab (w : World) : Prop := Lib.TabIs Tryd.prog w "internal/strconv.uint64pow10" .u64 Lib.pow10Tab

theorem gTab : Tryd.prog.globalNamed "internal/strconv.uint64pow10" = some 0 := by kernel_rfl

theorem Tab.step {w w' : World} {B : Nat} (h : Tab w) (hb : Below B w w') (hB : w.heap.size ≤ B) : Tab w' := Joins.tab_stays gTab h hb hB

/-- strconv.FormatInt(n, 10) -/
theorem fmt_any (n : Int) (w : World) (h0 : -9223372036854775808 ≤ n) (h1 : n ≤ 9223372036854775807) (ht : Tab w) :
    Calls Tryd.prog 15 #[.int .i64 n, .int .i64 10] w fun e w' => e = .returned (.string ⟨(Lib.itoa n).toArray⟩) ∧ Below w.heap.size w w' ∧ Tab w' := by
  refine (Tryd.strconv_FormatInt_10 n h0 h1 w ht).mono ?_
  rintro e w1 ⟨rfl, k, os, rfl⟩
  have hb := Lib.below_grow w.heap.size w (Nat.le_refl _) k os
  exact ⟨rfl, hb, ht.step hb (Nat.le_refl _)⟩

theorem itoa_div (u : Nat) : Lib.itoa ((u : Int) / 100) = Lib.decDigits (u / 100) := itoa_nat (u / 100)

theorem itoa_mod (u : Nat) : Lib.itoa ((u : Int) % 100) = Lib.decDigits (u % 100) := itoa_nat (u % 100)

theorem txt_nat (u : Nat) : txt (u : Int) = posT u := by unfold txt; rw [if_neg (by omega)]; simp

theorem txt_neg (u : Nat) (h : 0 < u) : txt (-(u : Int)) = 45 :: posT u := by unfold txt; rw [if_pos (by omega)]; simp

theorem posT_small (u : Nat) (h : u % 100 < 10) : posT u = Lib.decDigits (u / 100) ++ [46] ++ [48] ++ Lib.decDigits (u % 100) := by unfold posT; rw [if_pos h]; simp

theorem posT_big (u : Nat) (h : ¬ u % 100 < 10) : posT u = Lib.decDigits (u / 100) ++ [46] ++ Lib.decDigits (u % 100) := by unfold posT; rw [if_neg h]; simp

end Go.Proofs.YtnppkdnmkhoeeaaDoor
